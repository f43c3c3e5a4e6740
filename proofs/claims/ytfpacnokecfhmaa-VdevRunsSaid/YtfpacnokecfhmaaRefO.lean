/- The document's own device beside the device: each call leads to the same plain data. -/
import Derived.Test.YtfpacnokecfhmaaRefN
namespace Go.Proofs.Ytfpacnokecfhmaa
open Go.ChangeShapes Go.WideShapes Go.ChangeAt Go.RowKit
set_option linter.unusedVariables false

/-- these cells lie in no block that X names -/
def Apart (ao : Option Addr) (cs : List Value) (X : Nat → Prop) : Prop := ∀ a, ao = some a → 0 < cs.length → ¬ X a.block
section
variable {w w' : World} {ao : Option Addr} {cs : List Value} {G X X' : Nat → Prop}
theorem Reads.apart (h : Reads w ao cs) (hx : Apart ao cs X) (k : Kept G w w') (hG : ∀ i, i < w.heap.size → G i → X i) : Reads w' ao cs := by
  rcases Nat.eq_zero_or_pos cs.length with e | e
  · obtain rfl : cs = [] := List.eq_nil_of_length_eq_zero e
    exact Reads.nil _ _
  · exact h.keptF k fun a ha hg => hx a ha e (hG _ (h.lt 0 e a ha) hg)
theorem Apart.grow (hx : Apart ao cs X) (h : Reads w ao cs) (hX : ∀ k, X' k → X k ∨ w.heap.size ≤ k) : Apart ao cs X' := fun a ha e hx' => by
  rcases hX _ hx' with h1 | h1
  · exact hx a ha e h1
  · have := h.lt 0 e a ha; omega
theorem Apart.fresh {n : Nat} (hf : ∀ a, ao = some a → n ≤ a.block) (hX : ∀ k, X k → k < n) : Apart ao cs X := fun a ha _ hx => by
  have := hf a ha
  have := hX _ hx
  omega
end

/-- the document's device as a value, its rows in no block that X names -/
structure RefIs (w : World) (V : List Value) (m : DevM) (X : Nat → Prop) : Prop where
  ex : ∃ so sc po pc, V = refL m so sc po pc ∧ RefAt w m so sc po pc ∧ Apart so (rowsL secL m.stable) X ∧ Apart po (rowsL wrL m.pending) X
section
variable {w w' : World} {V : List Value} {m : DevM} {G X X' : Nat → Prop}
theorem RefIs.kept (h : RefIs w V m X) (k : Kept G w w') (hG : ∀ i, i < w.heap.size → G i → X i) : RefIs w' V m X := by
  obtain ⟨so, sc, po, pc, e, h1, h2, h3⟩ := h.ex
  exact ⟨so, sc, po, pc, e, ⟨h1.st.apart h2 k hG, h1.pe.apart h3 k hG, h1.sc, h1.pc⟩, h2, h3⟩
theorem RefIs.grow (h : RefIs w V m X) (hX : ∀ k, X' k → X k ∨ w.heap.size ≤ k) : RefIs w V m X' := by
  obtain ⟨so, sc, po, pc, e, h1, h2, h3⟩ := h.ex
  exact ⟨so, sc, po, pc, e, h1, h2.grow h1.st hX, h3.grow h1.pe hX⟩
theorem RefIs.below (h : RefIs w V m X) (hb : Below w.heap.size w w') : RefIs w' V m X := h.kept (G := fun _ => False) (Kept.of_below hb _) fun _ _ => False.elim
theorem RefIs.alloc (h : RefIs w V m X) (o : Obj) : RefIs (w.alloc o) V m X := h.kept (G := fun _ => False) (Kept.of_alloc _ w o) fun _ _ => False.elim
theorem RefIs.len (h : RefIs w V m X) : V.length = 5 := by
  obtain ⟨so, sc, po, pc, rfl, _⟩ := h.ex
  rfl
theorem RefIs.one (h : RefIs w V m X) : ∀ v ∈ V, v.oneCell' = true := by
  obtain ⟨so, sc, po, pc, rfl, _⟩ := h.ex
  exact devL_one
theorem RefIs.info (h : RefIs w V m X) : (Try.prog.info? 30).map (·.size) = some V.length := by
  obtain ⟨so, sc, po, pc, rfl, _⟩ := h.ex
  exact infoDev5
theorem RefAt.tick {so : Option Addr} {sc : Nat} {po : Option Addr} {pc : Nat} (h : RefAt w m so sc po pc) : RefAt w m.tick so sc po pc := ⟨h.st, h.pe, h.sc, h.pc⟩
theorem refL_tick (m : DevM) (so : Option Addr) (sc : Nat) (po : Option Addr) (pc : Nat) (h : m.ops < 4611686018427387903) : refL m.tick so sc po pc = devL so m.stable.length sc po m.pending.length pc ((m.ops : Int) + 1) (max m.left (-1)) m.dead := by
  rw [refL_dev, tick_ops h]; rfl
theorem spend_off {m : DevM} (h : m.lasts = false) : m.tick.spend = { m.tick with dead := true } := by
  unfold DevM.spend
  rw [show m.tick.lasts = false from h]; rfl
theorem spend_on {m : DevM} (h : m.lasts = true) : m.tick.spend = { m.tick with left := if 0 < m.left then m.left - 1 else m.left } := by
  unfold DevM.spend
  rw [show m.tick.lasts = true from h]; rfl
theorem refL_off (m : DevM) (so : Option Addr) (sc : Nat) (po : Option Addr) (pc : Nat) (h : m.ops < 4611686018427387903) (hl : m.lasts = false) : refL m.tick.spend so sc po pc = devL so m.stable.length sc po m.pending.length pc ((m.ops : Int) + 1) (max m.left (-1)) true := by
  rw [spend_off hl, refL_dev]
  show devL so m.stable.length sc po m.pending.length pc (m.tick.ops : Int) (max m.left (-1)) true = _
  rw [tick_ops h]
theorem max_ok {m : DevM} (hm : m.Fits) : -1 ≤ max m.left (-1) ∧ max m.left (-1) ≤ 9223372036854775807 := by
  have := hm.left
  omega
theorem ops_ok {m : DevM} (h : m.ops < 4611686018427387903) : 0 ≤ (m.ops : Int) ∧ (m.ops : Int) < 4611686018427387904 := by omega

theorem r_Read (h : RefIs w V m X) (hm : m.Fits) (ho : m.ops < 4611686018427387903) (hp : m.pending.length ≤ 1000000000) (i : Int) (hi : I64 i) :
    Calls Try.prog 14 #[.agg V.toArray, .int .i64 i] w fun e w' => ∃ V', e = .returned (.tuple #[.agg V'.toArray, .agg (secL (m.read i).1).toArray, .int .i64 (m.read i).2]) ∧ RefIs w' V' m.tick X ∧ Below w.heap.size w w' := by
  obtain ⟨so, sc, po, pc, rfl, h1, h2, h3⟩ := h.ex
  have back : ∀ w', Below w.heap.size w w' → RefIs w' (refL m.tick so sc po pc) m.tick X := fun w' hb => ⟨so, sc, po, pc, rfl, h1.tick.below hb, h2, h3⟩
  cases hh : m.has i
  · refine (rRead_out so _ sc po _ pc _ _ m.dead (ops_ok ho) i hi hm.len hh w).mono ?_
    rintro e w' ⟨rfl, hb⟩
    refine ⟨refL m.tick so sc po pc, ?_, back w' hb, hb⟩
    rw [refL_tick _ _ _ _ _ ho]
    simp [DevM.read, hh]
  · obtain ⟨k, rfl, hk⟩ := has_nat hh
    cases hd : m.dead
    · have e0 : refL m so sc po pc = devL so m.stable.length sc po m.pending.length pc (m.ops : Int) (max m.left (-1)) false := by rw [refL_dev, hd]
      rw [e0]
      refine (rRead_in so m.stable _ sc (Lib.hid rfl) po m.pending _ pc (Lib.hid rfl) _ _ (ops_ok ho) k hk hm.len hp _ (Lib.hid rfl) w h1.st h1.pe).mono ?_
      rintro e w' ⟨rfl, hb⟩
      refine ⟨refL m.tick so sc po pc, ?_, back w' hb, hb⟩
      rw [refL_tick _ _ _ _ _ ho, hd, nowOf_put _ _ _ hk]
      simp [DevM.read, hh, hd, DevM.now]
    · have e0 : refL m so sc po pc = devL so m.stable.length sc po m.pending.length pc (m.ops : Int) (max m.left (-1)) true := by rw [refL_dev, hd]
      rw [e0]
      refine (rRead_dead so _ sc po _ pc _ _ (ops_ok ho) k hi hm.len hh w).mono ?_
      rintro e w' ⟨rfl, hb⟩
      refine ⟨refL m.tick so sc po pc, ?_, back w' hb, hb⟩
      rw [refL_tick _ _ _ _ _ ho, hd]
      simp [DevM.read, hh, hd]

theorem r_Break (h : RefIs w V m X) (n : Int) (hn : I64 n) :
    Calls Try.prog 20 #[.agg V.toArray, .int .i64 n] w fun e w' => ∃ V', e = .returned (.agg V'.toArray) ∧ RefIs w' V' (m.brk n) X ∧ Below w.heap.size w w' := by
  obtain ⟨so, sc, po, pc, rfl, h1, h2, h3⟩ := h.ex
  refine (rBreak_any so _ sc po _ pc _ _ m.dead n _ hn (Lib.hid rfl) w).mono ?_
  rintro e w' ⟨rfl, hb⟩
  exact ⟨refL (m.brk n) so sc po pc, rfl, ⟨so, sc, po, pc, rfl, ⟨h1.st.below hb, h1.pe.below hb, h1.sc, h1.pc⟩, h2, h3⟩, hb⟩

theorem r_Put (h : RefIs w V m X) (hX : ∀ k, X k → k < w.heap.size) (hm : m.Fits) (ho : m.ops < 4611686018427387903) (hp : m.pending.length ≤ 1000000000) (i : Int) (hi : I64 i) (s : Sec) :
    Calls Try.prog 16 #[.agg V.toArray, .int .i64 i, .agg (secL s).toArray] w fun e w' => ∃ V', e = .returned (.tuple #[.agg V'.toArray, .int .i64 (m.write i s).2]) ∧ RefIs w' V' (m.write i s).1 X ∧ Below w.heap.size w w' := by
  obtain ⟨so, sc, po, pc, rfl, h1, h2, h3⟩ := h.ex
  cases hh : m.has i
  · have e1 : m.write i s = (m.tick, 41) := by unfold DevM.write; rw [hh]; rfl
    rw [e1]
    refine (rPut_out so _ sc po _ pc _ _ m.dead (ops_ok ho) i hi hm.len s hh w).mono ?_
    rintro e w' ⟨rfl, hb⟩
    exact ⟨refL m.tick so sc po pc, by rw [refL_tick _ _ _ _ _ ho], ⟨so, sc, po, pc, rfl, h1.tick.below hb, h2, h3⟩, hb⟩
  · obtain ⟨k, rfl, hk⟩ := has_nat hh
    cases hl : m.lasts
    · have e1 : m.write (k : Int) s = (m.tick.spend, 42) := by unfold DevM.write; rw [hh, hl]; rfl
      rw [e1]
      refine (rPut_no so _ sc po _ pc _ _ m.dead (ops_ok ho) k hi hm.len s hh (lasts_no hl) w).mono ?_
      rintro e w' ⟨rfl, hb⟩
      refine ⟨refL m.tick.spend so sc po pc, by rw [refL_off _ _ _ _ _ ho hl], ⟨so, sc, po, pc, rfl, ?_, ?_, ?_⟩, hb⟩
      · rw [spend_off hl]; exact ⟨h1.st.below hb, h1.pe.below hb, h1.sc, h1.pc⟩
      · rw [spend_off hl]; exact h2
      · rw [spend_off hl]; exact h3
    · have e1 : m.write (k : Int) s = ({ m.tick with left := (if 0 < m.left then m.left - 1 else m.left), pending := m.pending ++ [(k, s)] }, 0) := by
        unfold DevM.write; rw [hh, hl, spend_on hl]; rfl
      rw [e1]
      obtain ⟨hd, h0⟩ := lasts_yes hl
      have e0 : refL m so sc po pc = devL so m.stable.length sc po m.pending.length pc (m.ops : Int) (max m.left (-1)) false := by rw [refL_dev, hd]
      rw [e0]
      refine (rPut_yes so _ sc po m.pending _ pc (Lib.hid rfl) h1.pc.2 _ _ _ (ops_ok ho) h0 (max_ok hm) (Lib.hid rfl) hm.len hp k hk s w h1.pe).mono ?_
      rintro e w' ⟨po', pc', rfl, hr, hc, hn, hf, hb⟩
      have e2 : refL { m.tick with left := (if 0 < m.left then m.left - 1 else m.left), pending := m.pending ++ [(k, s)] } so sc po' pc' = devL so m.stable.length sc po' (m.pending.length + 1) pc' ((m.ops : Int) + 1) (refLeft (max m.left (-1))) false := by
        rw [refL_dev]
        show devL so m.stable.length sc po' (m.pending ++ [(k, s)]).length pc' (m.tick.ops : Int) (max (if 0 < m.left then m.left - 1 else m.left) (-1)) m.dead = _
        rw [tick_ops ho, refLeft_max, hd, List.length_append]
        rfl
      refine ⟨_, by rw [← e2], ⟨so, sc, po', pc', rfl, ⟨h1.st.below hb, hr, h1.sc, ?_, hn⟩, h2, Apart.fresh hf hX⟩, hb⟩
      show (m.pending ++ [(k, s)]).length ≤ pc'
      simpa using hc

theorem r_Flush (h : RefIs w V m X) (hX : ∀ k, X k → k < w.heap.size) (hm : m.Fits) (ho : m.ops < 4611686018427387903) (hp : m.pending.length ≤ 1000000000) :
    Calls Try.prog 18 #[.agg V.toArray] w fun e w' => ∃ V', e = .returned (.tuple #[.agg V'.toArray, .int .i64 m.flush.2]) ∧ RefIs w' V' m.flush.1 X ∧ Below w.heap.size w w' := by
  obtain ⟨so, sc, po, pc, rfl, h1, h2, h3⟩ := h.ex
  cases hl : m.lasts
  · have e1 : m.flush = (m.tick.spend, 42) := by unfold DevM.flush; rw [hl]; rfl
    rw [e1]
    refine (rFlush_no so _ sc po _ pc _ _ m.dead (ops_ok ho) (lasts_no hl) w).mono ?_
    rintro e w' ⟨rfl, hb⟩
    refine ⟨refL m.tick.spend so sc po pc, by rw [refL_off _ _ _ _ _ ho hl], ⟨so, sc, po, pc, rfl, ?_, ?_, ?_⟩, hb⟩
    · rw [spend_off hl]; exact ⟨h1.st.below hb, h1.pe.below hb, h1.sc, h1.pc⟩
    · rw [spend_off hl]; exact h2
    · rw [spend_off hl]; exact h3
  · have e1 : m.flush = ({ m.tick with left := (if 0 < m.left then m.left - 1 else m.left), stable := putAll m.stable m.pending, pending := [] }, 0) := by
      unfold DevM.flush; rw [hl, spend_on hl]
      unfold DevM.settle
      rw [kept_true]; rfl
    rw [e1]
    obtain ⟨hd, h0⟩ := lasts_yes hl
    have e0 : refL m so sc po pc = devL so m.stable.length sc po m.pending.length pc (m.ops : Int) (max m.left (-1)) false := by rw [refL_dev, hd]
    rw [e0]
    refine (rFlush_yes so m.stable _ sc (Lib.hid rfl) h1.sc.2 po m.pending _ pc (Lib.hid rfl) _ _ _ (ops_ok ho) h0 (max_ok hm) (Lib.hid rfl) hm.len hp (Lib.hid hm.at_) w h1.st h1.pe).mono ?_
    rintro e w' ⟨so', sc', rfl, hr, hc, hn, hf, hb⟩
    have hlen := putAll_length m.stable m.pending
    have e2 : refL { m.tick with left := (if 0 < m.left then m.left - 1 else m.left), stable := putAll m.stable m.pending, pending := [] } so' sc' none 0 = devL so' m.stable.length sc' none 0 0 ((m.ops : Int) + 1) (refLeft (max m.left (-1))) false := by
      rw [refL_dev]
      show devL so' (putAll m.stable m.pending).length sc' none 0 0 (m.tick.ops : Int) (max (if 0 < m.left then m.left - 1 else m.left) (-1)) m.dead = _
      rw [tick_ops ho, refLeft_max, hd, hlen]
    refine ⟨_, by rw [← e2], ⟨so', sc', none, 0, rfl, ⟨hr, Reads.nil _ _, ⟨?_, hn⟩, Nat.le_refl _, fun _ => rfl⟩, Apart.fresh hf hX, fun a e => by cases e⟩, hb⟩
    show (putAll m.stable m.pending).length ≤ sc'
    omega

theorem r_Crash (h : RefIs w V m X) (hX : ∀ k, X k → k < w.heap.size) (hm : m.Fits) (hp : m.pending.length ≤ 1000000000) (ko : Option Addr) (kc : Nat) (bs : List Bool) (hbl : bs.length ≤ 9223372036854775807) (hk : Reads w ko (boolsV bs)) :
    Calls Try.prog 22 #[.agg V.toArray, .slice ko bs.length kc] w fun e w' => ∃ V', e = .returned (.agg V'.toArray) ∧ RefIs w' V' (m.crash bs) X ∧ Below w.heap.size w w' := by
  obtain ⟨so, sc, po, pc, rfl, h1, h2, h3⟩ := h.ex
  refine (rCrash_any so m.stable _ sc (Lib.hid rfl) h1.sc.2 po m.pending _ pc (Lib.hid rfl) _ _ m.dead ko bs _ kc (Lib.hid rfl) hbl hm.len hp (Lib.hid hm.at_) w h1.st h1.pe hk _ (Lib.hid rfl)).mono ?_
  rintro e w' ⟨so', sc', rfl, hr, hc, hn, hf, hb⟩
  have hlen := putAll_length m.stable (DevM.kept (fun k => bs.getD k false) m.pending)
  have e2 : refL (m.crash bs) so' sc' none 0 = devL so' m.stable.length sc' none 0 0 (m.ops : Int) (-1) false := by
    rw [refL_dev]
    show devL so' (putAll m.stable (DevM.kept (fun k => bs.getD k false) m.pending)).length sc' none 0 0 (m.ops : Int) (max (-1) (-1)) false = _
    rw [hlen]; rfl
  refine ⟨_, by rw [← e2], ⟨so', sc', none, 0, rfl, ⟨hr, Reads.nil _ _, ⟨?_, hn⟩, Nat.le_refl _, fun _ => rfl⟩, Apart.fresh hf hX, fun a e => by cases e⟩, hb⟩
  show (putAll m.stable (DevM.kept (fun k => bs.getD k false) m.pending)).length ≤ sc'
  omega

theorem r_Rot (h : RefIs w V m X) (hX : ∀ k, X k → k < w.heap.size) (hm : m.Fits) (hp : m.pending.length ≤ 1000000000) (i : Int) (hi : I64 i) (s : Sec) :
    Calls Try.prog 24 #[.agg V.toArray, .int .i64 i, .agg (secL s).toArray] w fun e w' => ∃ V', e = .returned (.tuple #[.agg V'.toArray, .int .i64 (m.rot i s).2]) ∧ RefIs w' V' (m.rot i s).1 X ∧ Below w.heap.size w w' := by
  obtain ⟨so, sc, po, pc, rfl, h1, h2, h3⟩ := h.ex
  cases hh : m.has i
  · have e1 : m.rot i s = (m, 41) := by unfold DevM.rot; rw [hh]; rfl
    rw [e1]
    refine (rRot_out so _ sc po _ pc _ _ m.dead i hi hm.len s hh w).mono ?_
    rintro e w' ⟨rfl, hb⟩
    exact ⟨refL m so sc po pc, rfl, ⟨so, sc, po, pc, rfl, h1.below hb, h2, h3⟩, hb⟩
  · obtain ⟨k, rfl, hk⟩ := has_nat hh
    have e1 : m.rot (k : Int) s = ({ m with stable := m.stable.set k s, pending := m.pending.map fun p => (p.1, if p.1 = k then s else p.2) }, 0) := by
      unfold DevM.rot; rw [hh]; rfl
    rw [e1]
    refine (rRot_in so m.stable _ sc (Lib.hid rfl) h1.sc.2 po m.pending _ pc (Lib.hid rfl) _ _ m.dead hm.len hp k hk s w h1.st h1.pe _ (Lib.hid rfl)).mono ?_
    rintro e w' ⟨so', sc', po', pc', rfl, hr, hc, hn, hf, hr', hc', hn', hf', hb⟩
    have e2 : refL { m with stable := m.stable.set k s, pending := m.pending.map fun p => (p.1, if p.1 = k then s else p.2) } so' sc' po' pc' = devL so' m.stable.length sc' po' m.pending.length pc' (m.ops : Int) (max m.left (-1)) m.dead := by
      rw [refL_dev]
      show devL so' (m.stable.set k s).length sc' po' (m.pending.map fun p => (p.1, if p.1 = k then s else p.2)).length pc' (m.ops : Int) (max m.left (-1)) m.dead = _
      rw [List.length_set, List.length_map]
    refine ⟨_, by rw [← e2], ⟨so', sc', po', pc', rfl, ⟨hr, hr', ⟨?_, hn⟩, ?_, hn'⟩, Apart.fresh hf hX, Apart.fresh hf' hX⟩, hb⟩
    · show (m.stable.set k s).length ≤ sc'
      rw [List.length_set]; exact hc
    · show (m.pending.map fun p => (p.1, if p.1 = k then s else p.2)).length ≤ pc'
      rw [List.length_map]; exact hc'

theorem r_At (h : RefIs w V m X) (hm : m.Fits) (i : Int) (hi : I64 i) :
    Calls Try.prog 29 #[.agg V.toArray, .int .i64 i] w fun e w' => e = .returned (.agg (secL (m.stab i)).toArray) ∧ Below w.heap.size w w' := by
  obtain ⟨so, sc, po, pc, rfl, h1, h2, h3⟩ := h.ex
  cases hh : m.has i
  · have e1 : m.stab i = sec0 := by unfold DevM.stab; rw [hh]; rfl
    rw [e1]
    exact At_out so _ sc _ _ _ _ i hi hm.len hh w
  · obtain ⟨k, rfl, hk⟩ := has_nat hh
    have e1 : m.stab (k : Int) = m.stable.getD k sec0 := by unfold DevM.stab; rw [hh]; rfl
    rw [e1]
    exact At_in so m.stable _ sc (Lib.hid rfl) _ _ _ _ k hk hm.len w h1.st

theorem r_New (x : Int) (hx : I64 x) (w : World) (hX : ∀ k, X k → k < w.heap.size) :
    Calls Try.prog 12 #[.int .i64 x] w fun e w' => ∃ V', e = .returned (.agg V'.toArray) ∧ RefIs w' V' (DevM.fresh (DevM.newLen x)) X ∧ Below w.heap.size w w' := by
  refine (rNew_any x _ hx (Lib.hid rfl) w).mono ?_
  rintro e w' ⟨so, rfl, ⟨g, rfl, hg⟩, hr, hb⟩
  have hlen : (DevM.fresh (DevM.newLen x)).stable.length = DevM.newLen x := List.length_replicate
  have e2 : refL (DevM.fresh (DevM.newLen x)) (some ⟨g, 0, none⟩) (DevM.newLen x) none 0 = devL (some ⟨g, 0, none⟩) (DevM.newLen x) (DevM.newLen x) none 0 0 0 (-1) false := by
    rw [refL_dev, hlen]; rfl
  refine ⟨_, by rw [← e2], ⟨_, _, none, 0, rfl, ⟨hr, Reads.nil _ _, ⟨Nat.le_of_eq hlen, fun e => by cases e⟩, Nat.le_refl _, fun _ => rfl⟩, Apart.fresh (n := w.heap.size) (fun a e => by cases e; exact hg) hX, fun a e => by cases e⟩, hb⟩
end
end Go.Proofs.Ytfpacnokecfhmaa
