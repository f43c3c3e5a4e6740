/- The document's own List and Mix answer for any sets. -/
import Derived.Test.YtlbglcmajbhflaaSpanJ
namespace Go.Proofs.Ytlbglcmajbhflaa
open Go.ChangeShapes Go.WideShapes Go.ChangeAt Go.RowKit
set_option linter.unusedVariables false
set_option maxRecDepth 20000

theorem sInfoInt : (Try.prog.info? 3).map (fun i => (i.zero, i.size, i.bytes)) = some (some (.int .i64 0), 1, 8) := by kernel_rfl

/-- a slice of the call's own that holds these numbers -/
def OwnI (w : World) (base : Nat) (v : Value) (zs : List Int) : Prop := w.ownsRow base 3 1 v zs.length (zs.map (.int .i64))

theorem OwnI.shape {w : World} {base : Nat} {v : Value} {zs : List Int} (h : OwnI w base v zs) : ∃ ao cap, v = .slice ao zs.length cap ∧ Nums w ao zs ∧ (∀ a, ao = some a → base ≤ a.block ∧ a.block < w.heap.size) := by
  have hc := h
  have hlt := World.ownsRow.lt h
  obtain ⟨hl, h | h⟩ := h
  · obtain ⟨rfl, hn⟩ := h
    obtain rfl : zs = [] := List.eq_nil_of_length_eq_zero hn
    exact ⟨none, 0, rfl, (fun i hi => by simp at hi), (fun a h => by cases h)⟩
  · obtain ⟨g, cap, cur, rfl, _⟩ := h
    refine ⟨some ⟨g, 0, none⟩, cap, rfl, ?_, ?_⟩
    · intro i hi
      refine ⟨g, 0, rfl, ?_⟩
      rw [Nat.zero_add, hc.cellAt i (by omega)]
      simp [hi]
    · intro a ha
      cases ha
      exact hlt g rfl

theorem OwnI.below {w w' : World} {base : Nat} {v : Value} {zs : List Int} (h : OwnI w base v zs) (hb : Below w.heap.size w w') : OwnI w' base v zs := by
  obtain ⟨hl, h | h⟩ := h
  · exact ⟨hl, .inl h⟩
  · obtain ⟨g, cap, cur, rfl, h1, h2, h3⟩ := h
    refine ⟨hl, .inr ⟨g, cap, cur, rfl, h1, ?_, h3⟩⟩
    have : g < w.heap.size := by
      by_cases hb : g < w.heap.size
      · exact hb
      · rw [Array.getElem?_eq_none (by omega)] at h2; simp at h2
    rw [hb.block g this, h2]

theorem OwnI.le {w : World} {base base' : Nat} {v : Value} {zs : List Int} (h : OwnI w base v zs) (hb : base' ≤ base) : OwnI w base' v zs := by
  obtain ⟨hl, h | h⟩ := h
  · exact ⟨hl, .inl h⟩
  · obtain ⟨g, cap, cur, rfl, h1, h2⟩ := h
    exact ⟨hl, .inr ⟨g, cap, cur, rfl, by omega, h2⟩⟩

/-- the marked numbers below k, rising -/
def numsL (f : Nat → Bool) (k : Nat) : List Int := ((List.range k).filter f).map Int.ofNat

theorem numsL_succ (f : Nat → Bool) (k : Nat) : numsL f (k + 1) = if f k then numsL f k ++ [(k : Int)] else numsL f k := by
  unfold numsL
  rw [List.range_succ, List.filter_append]
  cases h : f k <;> simp [h]

theorem numsL_length (f : Nat → Bool) (k : Nat) : (numsL f k).length ≤ k := by
  unfold numsL
  rw [List.length_map]
  exact Nat.le_trans (List.length_filter_le _ _) (by simp)

theorem OwnI.row {w : World} {base : Nat} {v : Value} {zs : List Int} (h : OwnI w base v zs) : w.ownsRow base 3 1 v zs.length (zs.map (.int .i64)) := h

theorem OwnI.pushed {w : World} {base : Nat} {v : Value} {zs : List Int} {z : Int} (h : w.ownsRow base 3 1 v (zs.length + 1) (zs.map (.int .i64) ++ [.int .i64 z])) : OwnI w base v (zs ++ [z]) := by
  unfold OwnI
  simpa using h

/-- in either (0), in the first alone (1), in both (2) -/
def mixB (how : Int) (x y : Bool) : Bool := if how = 0 then x || y else if how = 1 then x && !y else x && y

theorem Marked.mix {w : World} {B T : Nat} {f g : Nat → Bool} {how : Int} {k : Nat} {v : Bool} (h : Marked w B T fun j => if j < k then mixB how (f j) (g j) else f j) (hv : v = mixB how (f k) (g k)) :
    Marked (w.setCell ⟨B, k, none⟩ (.bool v)) B T fun j => if j < k + 1 then mixB how (f j) (g j) else f j :=
  (h.set k v).congr fun j _ => by
    by_cases e : j = k
    · subst e; simp [hv]
    · have h1 : j < k + 1 ↔ j < k := by omega
      simp only [e, if_false, h1]

set_option maxHeartbeats 4000000 in
set_option maxRecDepth 20000 in
theorem Mix_any (ao bo : Option Addr) (cap cap' : Nat) (xs ys : List (Int × Int)) (how : Int) (w : World) (hx : Spans w ao xs) (hf : Fits xs) (hgd : Good xs) (hy : Spans w bo ys) (hf' : Fits ys) (hgd' : Good ys) (hh : 0 ≤ how) (hh2 : how ≤ 2) :
    Calls Try.prog 32 #[.slice ao xs.length cap, .slice bo ys.length cap', .int .i64 how] w fun e w' => ∃ v, e = .returned v ∧ OwnS w' w.heap.size v (runs (fun j => mixB how (maskS xs j) (maskS ys j)) 4096) ∧ Below w.heap.size w w' := by
  have hf := Lib.hid hf
  have hx := Lib.hid hx
  have hgd := Lib.hid hgd
  have hf' := Lib.hid hf'
  have hy := Lib.hid hy
  have hgd' := Lib.hid hgd'
  have hz := zero47
  have hbs := bools_size
  go_enter Try.func32, Try.ntmps32
  go_wp2_with fail
  refine (Bits_any _ _ _ _ hx.out hf.out hgd.out).mono ?_
  rintro e w1 ⟨rfl, hb1⟩
  have hst := store_bools_new (P := Try.prog) w1 48
  have hb1 := Lib.hid hb1
  go_wp2_with fail
  refine (Bits_any _ _ _ _ ((hy.out.below hb1.out).below ((Below.refl _ _).alloc (Nat.le_refl _) _)) hf'.out hgd'.out).mono ?_
  rintro e w2 ⟨rfl, hb2⟩
  clear hst
  have hst := store_bools_new (P := Try.prog) w2 48
  have hs1 := hb1.out.size
  have hs2 := hb2.size
  rw [World.size_alloc] at hs2
  have hm1 := Lib.hid ((Marked.new w1 48 (maskS xs)).below hb2 (by simp))
  have hb2 := Lib.hid hb2
  go_wp2
  clear hst
  go_loopw [9] (fun i wr => ∃ k : Nat, k ≤ 4096 ∧ i = .int .i64 k ∧ Marked wr w1.heap.size 48 (fun j => if j < k then mixB how (maskS xs j) (maskS ys j) else maskS xs j) ∧ Marked wr w2.heap.size 48 (maskS ys) ∧ Below w.heap.size w wr)
    (fun i _ => 4096 - (intOf i).toNat)
  case atStart => exact ⟨0, by omega, rfl, (hm1.out.alloc _).congr (fun j _ => by simp), Marked.new _ _ _, ((hb1.out.alloc hs1 _).trans (hb2.out.mono (by simp; omega))).alloc (by omega) _⟩
  case round =>
    obtain ⟨k, hk, rfl, hmx, hmy, hb⟩ := hrel
    by_cases hlt : k < 4096
    · have c1 := hmx.cell hlt
      have f1 := hmx.frozen k
      have c2 := hmy.cell hlt
      simp only [Nat.lt_irrefl, if_false] at c1
      have hsz := hb.size
      have hb := Lib.hid hb
      have hmx := Lib.hid hmx
      have hmy := Lib.hid hmy
      cases hfx : maskS xs k <;> cases hfy : maskS ys k <;> rw [hfx] at c1 <;> rw [hfy] at c2
      all_goals
        have hfx := Lib.hid hfx
        have hfy := Lib.hid hfy
        rcases (show how = 0 ∨ how = 1 ∨ how = 2 from by omega) with rfl | rfl | rfl
        all_goals
          go_wp2
          go_roundw
          case rel => exact ⟨k + 1, by omega, by go_num, hmx.out.mix (by rw [hfx.out, hfy.out]; rfl), hmy.out.other _ (by simp; omega), hb.out.setCell (by simp; omega) _⟩
          case measure => simp [intOf] <;> omega
    · obtain rfl : k = 4096 := by omega
      have hm := hmx.congr (g := fun j => mixB how (maskS xs j) (maskS ys j)) (fun j hj => by simp [hj])
      have hb := Lib.hid hb
      have hz := hb.out.size
      clear hmx
      go_wp2_with (first | (refine wpList_load_row rfl 48 _ rfl w1.heap.size rfl _ _ _ _ hm Try.underlying48 rfl (by kernel_rfl) ?_) | (go_at_call 30; refine (refSet_any _ _).mono ?_; rintro e w' ⟨v, rfl, ho, hb'⟩))
      go_ret
      exact ⟨_, rfl, ho.le hz, hb.out.trans (hb'.mono hz)⟩
end Go.Proofs.Ytlbglcmajbhflaa
