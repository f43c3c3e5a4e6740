/- (*span.marks).put marks all numbers of any set. -/
import Derived.Test.YtlbglcmajbhflaaSpanL
namespace Go.Proofs.Ytlbglcmajbhflaa
open Go.ChangeShapes Go.WideShapes Go.ChangeAt Go.RowKit Go.Shelf
attribute [local go_sem] Oper.semAt_some
set_option linter.unusedVariables false
set_option maxRecDepth 20000

theorem numbers_in (n : Nat) (ao : Option Addr) (len cap : Nat) (w : World) :
    CallsIn Fence.wide n Try.prog 40 #[.slice ao len cap] w fun e w' => e = .returned (.func (.func 48) #[] #[.pointer (some ⟨w.heap.size, 0, none⟩)]) ∧ w' = w.alloc (.cells #[.slice ao len cap] 22) := by
  refine callsIn_wide.2 ?_
  go_enter Try.func40, Try.ntmps40
  go_wp2
  go_ret
  exact ⟨rfl, rfl⟩

theorem numbers_stops (n : Nat) (hn : 1 ≤ n) (A : Nat → TypeId → Prop) (Bs : Nat) (ao : Option Addr) (cap : Nat) (xs : List (Int × Int)) (hr : rightFrom 0 xs = true) (hf : Fits xs) (w : World) (hBw : Bs < w.heap.size)
    (hx : Spans w ao xs) (hA : xs ≠ [] → ∀ a, ao = some a → ∀ T, ¬ A a.block T) (hAw : ∀ k, w.heap.size ≤ k → ¬ A k 53) (hBs : w.cell? ⟨Bs, 0, none⟩ = some (.slice ao xs.length cap)) :
    SeqStopsK Fence.wide n Try.prog 48 #[.pointer (some ⟨Bs, 0, none⟩)] (fun x : Fin 4096 => #[Value.int .i64 (x.val : Int)]) (Stays A) (fun ys => ys = upTo (maskS xs) 4096)
      (fun pre => ∃ m, m < 4096 ∧ maskS xs m = true ∧ pre = upTo (maskS xs) (m + 1)) 4096 w := fun l J Jx W hW hJ hJx hY h0 =>
  numbers1_in n hn A l Bs ao cap xs hr hf J Jx W hJ (hx.below hW) hA (fun k hk => hAw k (Nat.le_trans hW.size hk)) ((hW.cell hBw).trans hBs) hY h0

theorem Marked.kept {W W' : World} {row : Option Nat} {B T : Nat} {f : Nat → Bool} (h : Marked W B T f) (hg : W.grownBy W' row) (hr : ∀ r, row = some r → ∃ o : Obj, W.heap[r]? = some o ∧ o.isCells = false) : Marked W' B T f := by
  have hlt := h.lt
  unfold Marked at *
  rw [hg.block B hlt (fun e => by
    obtain ⟨o, ho, hc⟩ := hr B e.symm
    rw [h] at ho; cases ho; cases hc), h]

/-- behind a put: what was passed is as told -/
def putMask (f : Nat → Bool) (b : Bool) (pre : List (Fin 4096)) (j : Nat) : Bool := if pre.any (fun x => decide (x.val = j)) then b else f j

theorem putMask_snoc (f : Nat → Bool) (b : Bool) (pre : List (Fin 4096)) (x : Fin 4096) (j : Nat) : putMask f b (pre ++ [x]) j = if j = x.val then b else putMask f b pre j := by
  unfold putMask
  by_cases e : j = x.val
  · subst e; simp
  · have : ¬ x.val = j := fun h => e h.symm
    simp [e, this]

theorem putMask_all (f g : Nat → Bool) (b : Bool) {j : Nat} (hj : j < 4096) : putMask f b (upTo g 4096) j = if g j then b else f j := by
  unfold putMask
  have : (upTo g 4096).any (fun x => decide (x.val = j)) = g j := by
    rw [Bool.eq_iff_iff, List.any_eq_true]
    constructor
    · rintro ⟨x, hx, e⟩
      simp [upTo] at hx e
      rw [← e]; exact hx
    · intro h
      exact ⟨⟨j, hj⟩, by simp [upTo, h], by simp⟩
  rw [this]

theorem ownFrom_marked {β : Type} (D B T : Nat) (f : β → Nat → Bool) : OwnFrom D (fun (s : β) W => Marked W B T (f s)) := fun s W W' row hs hg hr => hs.kept hg fun r e => (hr r e).2

theorem ownFrom_cell {β : Type} (D : Nat) (a : Addr) (v : β → Value) : OwnFrom D (fun (s : β) W => W.cell? a = some (v s)) := fun s W W' row hs hg hr => cell_kept hs hg (fun r e => (hr r e).2)

theorem Marked.setBy {w : World} {B T : Nat} {f g : Nat → Bool} {m : Nat} {b : Bool} (h : Marked w B T f) (hg : ∀ j, g j = if j = m then b else f j) : Marked (w.setCell ⟨B, m, none⟩ (.bool b)) B T g :=
  (h.set m b).congr fun j _ => (hg j).symm

set_option maxRecDepth 100000 in
set_option maxHeartbeats 2000000 in
theorem sPut_any (B T : Nat) (f : Nat → Bool) (ao : Option Addr) (cap : Nat) (xs : List (Int × Int)) (b : Bool) (w : World) (hm : Marked w B T f) (hx : Spans w ao xs) (hf : Fits xs) (hr : rightFrom 0 xs = true) (hA : xs ≠ [] → ∀ a, ao = some a → a.block < B) :
    Calls Try.prog 42 #[.pointer (some ⟨B, 0, none⟩), .slice ao xs.length cap, .bool b] w fun e w' => e = .returned (.tuple #[]) ∧ Marked w' B T (fun j => if maskS xs j then b else f j) ∧ Below B w w' := by
  have hBw := hm.lt
  refine (callsIn_wide (n := 5)).1 ?_
  refine callsIn_of_wp_marks Try.func42 rfl trivial ?_ rfl
  simp only [Try.ntmps42, List.size_toArray, List.length_cons, List.length_nil, Nat.reduceAdd, Nat.reduceSub, Array.replicate_succ, Array.replicate_zero, List.push_toArray, List.append_toArray, List.nil_append, List.cons_append]
  have hx := Lib.hid hx
  have hf := Lib.hid hf
  have hr := Lib.hid hr
  have hA := Lib.hid hA
  have hm := Lib.hid hm
  gi_wp2_with (refine ⟨trivial, ?_⟩; gi_at_call 40; refine (numbers_in _ _ _ _ _).mono ?_; rintro e w' ⟨rfl, rfl⟩)
  obtain ⟨w3, hw3⟩ : ∃ w3 : World, w3 = (((w.alloc (.cells #[.pointer (some ⟨B, 0, none⟩)] 86)).alloc (.cells #[.bool b] 4)).alloc (.cells #[.slice ao xs.length cap] 22)) := ⟨_, rfl⟩
  have hsz : w3.heap.size = w.heap.size + 3 := by rw [hw3]; simp
  have hB3 : Below w.heap.size w w3 := by rw [hw3]; exact (((Below.refl _ _).alloc (Nat.le_refl _) _).alloc (by simp) _).alloc (by simp; omega) _
  have c1 : w3.cell? ⟨w.heap.size, 0, none⟩ = some (.pointer (some ⟨B, 0, none⟩)) := by rw [hw3]; simp [go_sem]
  have c2 : w3.cell? ⟨w.heap.size + 1, 0, none⟩ = some (.bool b) := by rw [hw3]; simp [go_sem]
  have c3 : w3.cell? ⟨w.heap.size + 1 + 1, 0, none⟩ = some (.slice ao xs.length cap) := by rw [hw3]; simp [go_sem]
  have hm3 := hm.out.below hB3 hBw
  rw [← hw3]
  refine wpIn_rangeFunc_ownF rfl (by omega) (gf := 48) (lb := #[.pointer (some ⟨w.heap.size + 1 + 1, 0, none⟩)]) rfl trivial (enters_of Try.func48 (by kernel_rfl) rfl)
    (numbers_stops 4 (by omega) (fun k _ => k = B) (w.heap.size + 1 + 1) ao cap xs hr.out hf.out w3 (by omega) (hx.out.below hB3) (fun hne a e T h => by have := hA.out hne a e; omega) (fun k hk e => by omega) c3)
    Stays.t (fun W l o o' h1 h2 h3 h4 => Stays.b _ W l o o' h1 h2 h3 h4) (Below.refl _ _) (fun _ => rfl)
    (fun pre W => (Marked W B T (putMask f b pre) ∧ W.cell? ⟨w.heap.size, 0, none⟩ = some (.pointer (some ⟨B, 0, none⟩)) ∧ W.cell? ⟨w.heap.size + 1, 0, none⟩ = some (.bool b)) ∧ Below B w W)
    (fun _ _ _ => False)
    (OwnFrom.and (OwnFrom.and (ownFrom_marked _ _ _ _) (OwnFrom.and (ownFrom_cell _ _ (fun _ => _)) (ownFrom_cell _ _ (fun _ => _)))) (ownFrom_below (by omega) (by omega)))
    (fun _ _ _ _ _ hs _ _ => hs)
    ⟨⟨hm3.congr (fun j _ => by simp [putMask]), c1, c2⟩, hB3.mono (by omega)⟩
    (fun x => { tmps := #[.pointer (some ⟨B, 0, none⟩), .slice ao xs.length cap, .bool b, .pointer (some ⟨w.heap.size, 0, none⟩), undef, .pointer (some ⟨w.heap.size + 1, 0, none⟩), .int .i64 (x.val : Int), .slice ao xs.length cap, .func (.func 48) #[] #[.pointer (some ⟨w.heap.size + 1 + 1, 0, none⟩)], .int .i64 (x.val : Int), undef, undef, undef, undef, undef], defers := [] }) ?assign ?body ?done ?stop
  case assign =>
    intro l x W K hK
    gi_wp2
    exact hK
  case body =>
    rintro l pre x W ⟨⟨hmk, d1, d2⟩, hB⟩ _
    have hx4 := x.isLt
    have d3 := hmk.cell hx4
    have d4 := hmk.frozen x.val
    have hmk := Lib.hid hmk
    have hB := Lib.hid hB
    gi_wp2
    gi_region
    all_goals gi_wp2
    all_goals exact ⟨(KeepsOthers.setCell W ⟨B, x.val, none⟩ (.bool b)).trans (KeepsOthers.drew _), (Stays.setCell (A := fun k _ => k = B) W (a := ⟨B, x.val, none⟩) (.bool b) (fun _ => rfl)).trans (Stays.drew _ _),
      ⟨hmk.out.setBy (fun j => putMask_snoc f b pre x j), (World.cell?_of_block (heap_setCell_other _ _ _ _ (by simp; omega))).trans d1, (World.cell?_of_block (heap_setCell_other _ _ _ _ (by simp; omega))).trans d2⟩, (hB.out.setCell (Nat.le_refl _) _).drew⟩
  case done =>
    rintro D ys W hD rfl ⟨⟨hmk, _, _⟩, hB⟩ hK
    gi_wp2
    refine ⟨by simp, .inl ⟨_, _, rfl, run_takeDeferred hK, ?_⟩⟩
    have hall : ∀ j, j < 4096 → putMask f b (upTo (maskS xs) 4096) j = if maskS xs j then b else f j := fun j hj => putMask_all _ _ _ hj
    exact ⟨_, results_none rfl _ _ _, rfl, (hmk.congr hall).kept (grownBy_putObj' _ D _) (fun r e => by cases e; exact ⟨_, hK, rfl⟩), hB.trans (belowK_b (w := w) (by omega) W D _ _ (by omega) hK rfl rfl)⟩
  case stop =>
    rintro D c pre W _ _ h _
    exact h.elim
end Go.Proofs.Ytlbglcmajbhflaa
