/- How a list of moves reads that came in; copies of moves; which lists can be in memory; the chapter's example. -/
import Derived.Test.YtlbglcmajbhflaaSlogG
import Derived.Deep.Slices
import Derived.OpenShut
import Derived.SizedLaws
namespace Go.Proofs.Ytlbglcmajbhflaa
open Go.ChangeShapes Go.WideShapes Go.ChangeAt Go.RowKit Go.Deep
set_option linter.unusedVariables false
set_option maxRecDepth 20000

/-! ### Which moves can be in memory -/
theorem fit_right {ms : List (Bool × Int × Int)} (h : rightAll ms = true) (hl : ms.length ≤ 8192) : FitM ms := by
  refine ⟨fun m hm => ?_, by omega⟩
  have := withinB_true (List.all_eq_true.1 h m hm)
  unfold I64; omega
theorem right_movesOf (t : Bool) {low : Int} {xs : List (Int × Int)} (h : rightFrom low xs = true) : rightAll (movesOf t xs) = true := by
  induction xs generalizing low with
  | nil => rfl
  | cons p r ih =>
    obtain ⟨s, n⟩ := p
    simp only [rightFrom, Bool.and_eq_true] at h
    rw [movesOf_cons, rightAll_cons, h.1.1, ih h.2]; rfl
theorem diffL_fit (xs ys : List (Int × Int)) : FitM (diffL xs ys) := by
  refine fit_right ?_ (diffL_length xs ys)
  unfold diffL
  split
  · unfold rightAll
    rw [List.all_append]
    have h1 := right_movesOf false (cutS_right xs ys)
    have h2 := right_movesOf true (cutS_right ys xs)
    unfold rightAll at h1 h2
    rw [h1, h2]; rfl
  · rfl
theorem oneM_right {b : List UInt8} {m : Bool × Int × Int} (h : oneM b = some m) : withinB m.2.1 m.2.2 = true := by
  unfold oneM at h
  dsimp only at h
  split at h
  · rename_i hc
    cases h
    exact hc.2
  · cases h
theorem readN_right {k : Nat} {b : List UInt8} {ms : List (Bool × Int × Int)} (h : readN k b = some ms) : rightAll ms = true ∧ ms.length = k := by
  induction k generalizing b ms with
  | zero => simp [readN] at h; subst h; exact ⟨rfl, rfl⟩
  | succ k ih =>
    unfold readN at h
    cases e : oneM (b.take 5) with
    | none => rw [e] at h; cases h
    | some m =>
      rw [e] at h
      cases e2 : readN k (b.drop 5) with
      | none => rw [e2] at h; simp at h
      | some l =>
        rw [e2] at h
        simp at h
        subst h
        obtain ⟨h1, h2⟩ := ih e2
        refine ⟨?_, by simp [h2]⟩
        obtain ⟨t, s, n⟩ := m
        have := oneM_right e
        rw [rightAll_cons, h1, this]; rfl
theorem readM_fit {b : List UInt8} : FitM ((readM b).getD []) := by
  cases e : readM b with
  | none => exact ⟨fun m hm => (by cases hm), by simp⟩
  | some ms =>
    unfold readM at e
    split at e
    · rename_i hc
      obtain ⟨h1, h2⟩ := readN_right e
      exact fit_right h1 (by have : (Option.getD (some ms) []).length = ms.length := rfl; omega)
    · cases e
theorem replayL_fit (xs : List (Int × Int)) (ms : List (Bool × Int × Int)) : Fits ((replayL xs ms).getD []) := by
  cases e : replayL xs ms with
  | none => exact ⟨fun m hm => (by cases hm), by simp⟩
  | some ys => exact right_fits (replayL_set e)
theorem FitM.take {ms : List (Bool × Int × Int)} (h : FitM ms) (n : Nat) : FitM (ms.take n) := ⟨fun m hm => h.1 m (List.mem_of_mem_take hm), by have := h.2; simp; omega⟩
theorem FitM.drop {ms : List (Bool × Int × Int)} (h : FitM ms) (n : Nat) : FitM (ms.drop n) := ⟨fun m hm => h.1 m (List.mem_of_mem_drop hm), by have := h.2; simp; omega⟩
theorem FitM.nil : FitM [] := ⟨fun m hm => (by cases hm), by simp⟩
theorem Fits.nil : Fits [] := ⟨fun m hm => (by cases hm), by simp⟩
theorem Spans.nil (w : World) (ao : Option Addr) : Spans w ao [] := fun i h => by simp at h
theorem Moves.take {w : World} {ao : Option Addr} {ms : List (Bool × Int × Int)} (h : Moves w ao ms) (n : Nat) : Moves w ao (ms.take n) := fun i hi => by
  obtain ⟨b, off, e, c0, c1, c2⟩ := h i (by simp at hi; omega)
  exact ⟨b, off, e, by rw [c0]; simp, by rw [c1]; simp, by rw [c2]; simp⟩
/-- where moves begin behind a cut -/
def shiftM (ao : Option Addr) (cap l : Nat) : Option Addr := if cap = l then ao else ao.map (·.add (l * 3))
theorem Moves.shift {w : World} {ao : Option Addr} {ms : List (Bool × Int × Int)} (h : Moves w ao ms) {cap l : Nat} (hc : ms.length ≤ cap) : Moves w (shiftM ao cap l) (ms.drop l) := fun i hi => by
  have hi' : l + i < ms.length := by simp at hi; omega
  obtain ⟨b, off, rfl, c0, c1, c2⟩ := h (l + i) hi'
  refine ⟨b, off + l * 3, ?_, ?_, ?_, ?_⟩
  · unfold shiftM; rw [if_neg (by omega)]; simp [Go.WideShapes.add_plain]
  · rw [show off + l * 3 + i * 3 = off + (l + i) * 3 from by omega, c0]; simp
  · rw [show off + l * 3 + i * 3 + 1 = off + (l + i) * 3 + 1 from by omega, c1]; simp
  · rw [show off + l * 3 + i * 3 + 2 = off + (l + i) * 3 + 2 from by omega, c2]; simp
theorem move_cells : ∀ w, (Go.sizeOf 55).run Try.prog w = .ok 3 w := fun _ => by kernel_rfl
theorem cut_moves_h (ao : Option Addr) (len cap h : Nat) (hh : h ≤ cap) (w : World) :
    (Instr.slice 27 (.slice ao len cap) none (some (.int .i64 (h : Int))) none).run Try.prog w = .ok (.slice ao h cap) w := by
  have he : Try.prog.elem 27 = 55 := by kernel_rfl
  have ht' : Try.prog.underlying 27 = some (.slice (Try.prog.elem 27)) := by rw [he]; exact Try.underlying27
  rw [run_slice_h w 27 ao len cap ht' .i64 _ (by omega) (by omega), he, move_cells]
  simp [Result.andThen, sliced]
  intro _
  cases ao <;> simp [Addr.add]
theorem cut_moves_l (ao : Option Addr) (len cap l : Nat) (hl : l ≤ len) (w : World) :
    (Instr.slice 27 (.slice ao len cap) (some (.int .i64 (l : Int))) none none).run Try.prog w = .ok (.slice (shiftM ao cap l) (len - l) (cap - l)) w := by
  have he : Try.prog.elem 27 = 55 := by kernel_rfl
  have ht' : Try.prog.underlying 27 = some (.slice (Try.prog.elem 27)) := by rw [he]; exact Try.underlying27
  rw [run_slice_l w 27 ao len cap ht' .i64 _ (by omega) (by omega), he, move_cells]
  simp [Result.andThen, sliced, shiftM]

/-! ### A copy -/
theorem Moves.reads {w : World} {ao : Option Addr} {ms : List (Bool × Int × Int)} (h : Moves w ao ms) : Reads w ao (rowsL mvL ms) := by
  intro q hq
  rw [rowsL_length mvL_length] at hq
  have hi1 : q / 3 < ms.length := Nat.div_lt_of_lt_mul (by omega)
  obtain ⟨b, off, e, c0, c1, c2⟩ := h (q / 3) hi1
  refine ⟨b, off, e, ?_⟩
  have key : ∀ j v, (mvL ms[q / 3])[j]? = some v → q = q / 3 * 3 + j → some v = some ((rowsL mvL ms)[q]'(by rw [rowsL_length mvL_length]; exact hq)) := fun j v hv hj => by
    have := rowsL_at mvL_length ms (q / 3) hi1 j v hv
    rw [← hj] at this
    rw [← this, List.getElem?_eq_getElem (by rw [rowsL_length mvL_length]; exact hq)]
  rcases (show q % 3 = 0 ∨ q % 3 = 1 ∨ q % 3 = 2 from by omega) with h0 | h0 | h0
  · rw [← key 0 _ rfl (by omega), ← c0]; congr 2; omega
  · rw [← key 1 _ rfl (by omega), ← c1]; congr 2; omega
  · rw [← key 2 _ rfl (by omega), ← c2]; congr 2; omega

/-- 'append([]api.Move{}, ms...)' -/
theorem copy_moves {ops : Array Oper} {rest : List Oper} {o : Oper} {a : Act} {Q : Exit → Act → World → Prop} (hgd : o.guard = none) (s x : Operand)
    (ho : o.op = .call { callee := .builtin .append, args := #[s, x], argTypes := #[27, 27] }) (w0 : World) (hs : a.eval s = .slice (some ⟨w0.heap.size, 0, none⟩) 0 0)
    (ao : Option Addr) (cap : Nat) (ms : List (Bool × Int × Int)) (hx : a.eval x = .slice ao ms.length cap) (hn : ao = none → ms = [] ∧ cap = 0) (hsp : Moves w0 ao ms) (hf : FitM ms)
    (h : ∀ co cc w', Moves w' co ms → Below w0.heap.size w0 w' → wpList Try.prog ops Q rest (a.put o.dst (.slice co ms.length cc)) w') :
    wpList Try.prog ops Q (o :: rest) a (w0.alloc (.cells #[] 55)) := by
  obtain ⟨i0, hi, hz0, hz1, hz2⟩ := info_parts infoMove
  have hb0 : Below w0.heap.size w0 (w0.alloc (.cells #[] 55)) := (Below.refl w0.heap.size w0).alloc (Nat.le_refl _) _
  refine wpList_append_src hgd s x 27 ho w0.heap.size 55 i0 _ 3 24 Try.underlying27 hi hz0 hz1 hz2 rfl (by decide) _ 0 [] _ hs (World.ownsRow_made w0 #[] 0 (Nat.le_refl _) (by decide) rfl)
    ao ms.length cap (rowsL mvL ms) hx (fun h => by have := hn h; simp [this]) (rowsL_length mvL_length ms) ((hsp.below hb0).reads.cellsAt) (rowsL_one_cell mvL_one ms) (by have := hf.2; omega) (by have := hf.2; omega) (by simp) ?_
  intro v' w' ho1 hg1
  have ho1 : OwnM w' w0.heap.size v' ms := by simpa [OwnM] using ho1
  obtain ⟨co, cc, rfl, hs1, _⟩ := ho1.shape
  exact h co cc w' hs1 (hb0.grown hg1 (by simp) (fun k e => by simp [Value.ownBlock] at e; omega))

/-! ### An argument -/
section
variable {H : Type} {enc : TypeId × Value → H} {W : World} {base : Nat} {v : Value} {d : DataW H} {p : List MemPlace}
theorem arg_moves (h : DataW.Trod enc Try.prog W 0 (fun _ => true) true 27 v d p)
    (hv : Value.okWide Try.prog W .any base 27 v)
    (hw : ∀ es sp, d = .slice es sp → (es.length + sp.length) * Try.prog.bytesOf 55 ≤ reachBytes) : ∃ ao ms cap, v = .slice ao ms.length cap ∧ Moves W ao ms ∧ FitM ms ∧ ((ao = none → ms = [] ∧ cap = 0) ∧ ms.length ≤ cap ∧ cap ≤ 140737488351232) := by
  obtain ⟨a, len, cap, rfl⟩ := okWide_slice Try.underlying27 hv
  obtain ⟨fuel, hf⟩ := h
  have cA : Try.prog.cellsOf 55 = 3 := by kernel_rfl
  have bA : Try.prog.bytesOf 55 = 24 := by kernel_rfl
  rcases open_slice Try.underlying27 hf with ⟨hcs, _⟩ | ⟨a', len', cap', m, n, D, Pl, hcs, _, hl, _, hm, hx, hi⟩
  · simp [Value.cells] at hcs
    obtain ⟨rfl, rfl, rfl⟩ := hcs
    exact ⟨none, [], 0, rfl, Moves.nil _ _, FitM.nil, fun _ => ⟨rfl, rfl⟩, by simp, by simp⟩
  · simp [Value.cells] at hcs
    obtain ⟨rfl, rfl, rfl⟩ := hcs
    simp only [if_true] at hm
    subst hm
    simp only [Prod.mk.injEq] at hx
    have hlen := hw _ _ hx.1
    simp only [List.length_map, List.length_range, bA] at hlen
    have key : ∀ i, i < len → ∃ q : Bool × Int × Int, (∀ j u, (mvL q)[j]? = some u → W.cell? (a'.add (i * 3 + j)) = some u) ∧ I64 q.2.1 ∧ I64 q.2.2 := by
      intro i hil
      obtain ⟨cs, hcells, htr⟩ := hi i (by omega)
      rw [cA] at hcells
      obtain ⟨_, hcl, hcat⟩ := World.cells?_some hcells
      obtain ⟨xs, k, _, hxs, _, hxl, hfld⟩ := DataW.trod_struct Try.underlying55 htr
      have cB : Try.prog.cellsOf 4 = 1 := by kernel_rfl
      have cS : Try.prog.cellsOf 53 = 2 := by kernel_rfl
      have cI : Try.prog.cellsOf 3 = 1 := by kernel_rfl
      have g0 : DataW.trod enc Try.prog W 0 (fun _ => true) true k 4 ((cs.drop 0).take (Try.prog.cellsOf 4)) = xs[0]? := hfld 0 _ rfl
      have g1 : DataW.trod enc Try.prog W 0 (fun _ => true) true k 53 ((cs.drop 1).take (Try.prog.cellsOf 53)) = xs[1]? := hfld 1 _ rfl
      have hxl2 : xs.length = 2 := hxl
      rw [cB] at g0
      rw [cS] at g1
      rw [List.getElem?_eq_getElem (by omega)] at g0 g1
      obtain ⟨b0, e0, _⟩ := DataW.trod_bool Try.underlying4 g0
      obtain ⟨ys, k2, _, hys, _, hyl, hfld2⟩ := DataW.trod_struct Try.underlying53 g1
      have s0 : DataW.trod enc Try.prog W 0 (fun _ => true) true k2 3 ((((cs.drop 1).take 2).drop 0).take (Try.prog.cellsOf 3)) = ys[0]? := hfld2 0 _ rfl
      have s1 : DataW.trod enc Try.prog W 0 (fun _ => true) true k2 3 ((((cs.drop 1).take 2).drop 1).take (Try.prog.cellsOf 3)) = ys[1]? := hfld2 1 _ rfl
      have hyl2 : ys.length = 2 := hyl
      rw [cI] at s0 s1
      rw [List.getElem?_eq_getElem (by omega)] at s0 s1
      obtain ⟨z0, e1, _, wf1⟩ := DataW.trod_int Try.underlying3 s0
      obtain ⟨z1, e2, _, wf2⟩ := DataW.trod_int Try.underlying3 s1
      have hcs : cs = mvL (b0, z0, z1) := by
        match cs, hcl with
        | [x, y, z], _ =>
          simp at e0 e1 e2
          subst e0; subst e1; subst e2
          rfl
      refine ⟨(b0, z0, z1), fun j u hu => ?_, wf_i64 wf1, wf_i64 wf2⟩
      have hj : j < 3 := (List.getElem?_eq_some_iff.1 hu).1
      rw [← Go.Deep.add_add, hcat j hj, hcs, hu]
    obtain ⟨f, hf⟩ : ∃ f : Nat → Bool × Int × Int, ∀ i, i < len → (∀ j u, (mvL (f i))[j]? = some u → W.cell? (a'.add (i * 3 + j)) = some u) ∧ I64 (f i).2.1 ∧ I64 (f i).2.2 :=
      ⟨fun i => if h : i < len then (key i h).choose else (false, 0, 0), fun i h => by simp only [h, dif_pos]; exact (key i h).choose_spec⟩
    have hll : ((List.range len).map f).length = len := by simp
    refine ⟨some a', (List.range len).map f, m, by rw [hll], ?_, ⟨fun q hq => ?_, ?_⟩, (fun h => by cases h), by rw [hll]; exact hl, ?_⟩
    · intro i hi'
      rw [hll] at hi'
      obtain ⟨h1, _, _⟩ := hf i hi'
      obtain ⟨bl, off, spot⟩ := a'
      have h0 := (hf 0 (by omega)).1 0 _ rfl
      have hspot : spot = none := by simpa [Addr.add] using World.cell?_spot h0
      subst hspot
      refine ⟨bl, off, rfl, ?_, ?_, ?_⟩
      · have := h1 0 _ rfl
        rw [Go.WideShapes.add_plain] at this
        rw [Nat.add_zero] at this
        rw [this]; simp
      · have := h1 1 _ rfl
        rw [Go.WideShapes.add_plain, ← Nat.add_assoc] at this
        rw [this]; simp
      · have := h1 2 _ rfl
        rw [Go.WideShapes.add_plain, ← Nat.add_assoc] at this
        rw [this]; simp
    · obtain ⟨i, hi', rfl⟩ := List.mem_map.1 hq
      exact (hf i (by simpa using hi')).2
    · rw [hll]
      unfold reachBytes at hlen
      omega
    · unfold reachBytes at hlen
      omega
end
end Go.Proofs.Ytlbglcmajbhflaa
