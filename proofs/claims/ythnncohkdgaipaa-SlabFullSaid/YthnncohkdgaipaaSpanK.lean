/- The document's own List and Mix answer for any sets. -/
import Derived.Test.YthnncohkdgaipaaSpanJ
namespace Go.Proofs.Ythnncohkdgaipaa
open Go.ChangeShapes Go.WideShapes Go.ChangeAt Go.RowKit
set_option linter.unusedVariables false
set_option maxRecDepth 20000

theorem sInfoInt : (Try.prog.info? 3).map (fun i => (i.zero, i.size, i.bytes)) = some (some (.int .i64 0), 1, 8) := by kernel_rfl

/-- a slice of the call's own that holds these numbers -/
def OwnI (w : World) (base : Nat) (v : Value) (zs : List Int) : Prop := w.ownsRow base 3 1 v zs.length (zs.map (.int .i64))

theorem OwnI.shape {w : World} {base : Nat} {v : Value} {zs : List Int} (h : OwnI w base v zs) : ∃ ao cap, v = .slice ao zs.length cap ∧ Nums w ao zs ∧ (∀ a, ao = some a → base ≤ a.block ∧ a.block < w.heap.size) := by
  have hc := h
  have hlt := World.ownsRow.lt h
  obtain ⟨hl, h | h⟩ := h
  · obtain ⟨rfl, hn⟩ := h
    obtain rfl : zs = [] := List.eq_nil_of_length_eq_zero hn
    exact ⟨none, 0, rfl, (fun i hi => by simp at hi), (fun a h => by cases h)⟩
  · obtain ⟨g, cap, cur, rfl, _⟩ := h
    refine ⟨some ⟨g, 0, none⟩, cap, rfl, ?_, ?_⟩
    · intro i hi
      refine ⟨g, 0, rfl, ?_⟩
      rw [Nat.zero_add, hc.cellAt i (by omega)]
      simp [hi]
    · intro a ha
      cases ha
      exact hlt g rfl

theorem OwnI.below {w w' : World} {base : Nat} {v : Value} {zs : List Int} (h : OwnI w base v zs) (hb : Below w.heap.size w w') : OwnI w' base v zs := by
  obtain ⟨hl, h | h⟩ := h
  · exact ⟨hl, .inl h⟩
  · obtain ⟨g, cap, cur, rfl, h1, h2, h3⟩ := h
    refine ⟨hl, .inr ⟨g, cap, cur, rfl, h1, ?_, h3⟩⟩
    have : g < w.heap.size := by
      by_cases hb : g < w.heap.size
      · exact hb
      · rw [Array.getElem?_eq_none (by omega)] at h2; simp at h2
    rw [hb.block g this, h2]

theorem OwnI.le {w : World} {base base' : Nat} {v : Value} {zs : List Int} (h : OwnI w base v zs) (hb : base' ≤ base) : OwnI w base' v zs := by
  obtain ⟨hl, h | h⟩ := h
  · exact ⟨hl, .inl h⟩
  · obtain ⟨g, cap, cur, rfl, h1, h2⟩ := h
    exact ⟨hl, .inr ⟨g, cap, cur, rfl, by omega, h2⟩⟩

/-- the marked numbers below k, rising -/
def numsL (f : Nat → Bool) (k : Nat) : List Int := ((List.range k).filter f).map Int.ofNat

theorem numsL_succ (f : Nat → Bool) (k : Nat) : numsL f (k + 1) = if f k then numsL f k ++ [(k : Int)] else numsL f k := by
  unfold numsL
  rw [List.range_succ, List.filter_append]
  cases h : f k <;> simp [h]

theorem numsL_length (f : Nat → Bool) (k : Nat) : (numsL f k).length ≤ k := by
  unfold numsL
  rw [List.length_map]
  exact Nat.le_trans (List.length_filter_le _ _) (by simp)

theorem OwnI.row {w : World} {base : Nat} {v : Value} {zs : List Int} (h : OwnI w base v zs) : w.ownsRow base 3 1 v zs.length (zs.map (.int .i64)) := h

theorem OwnI.pushed {w : World} {base : Nat} {v : Value} {zs : List Int} {z : Int} (h : w.ownsRow base 3 1 v (zs.length + 1) (zs.map (.int .i64) ++ [.int .i64 z])) : OwnI w base v (zs ++ [z]) := by
  unfold OwnI
  simpa using h

set_option maxHeartbeats 2000000 in
set_option maxRecDepth 20000 in
theorem refList_any (ao : Option Addr) (cap : Nat) (xs : List (Int × Int)) (w : World) (hx : Spans w ao xs) (hf : Fits xs) (hgd : Good xs) :
    Calls Try.prog 19 #[.slice ao xs.length cap] w fun e w' => ∃ v, e = .returned v ∧ OwnI w' w.heap.size v (numsL (maskS xs) 4096) ∧ Below w.heap.size w w' := by
  have hl := hf.2
  have hf := Lib.hid hf
  have hx := Lib.hid hx
  have hgd := Lib.hid hgd
  have hz := zero47
  have hbs := bools_size
  obtain ⟨i0, hi, hz0, hz1, hz2⟩ := info_parts sInfoInt
  go_enter Try.func19, Try.ntmps19
  go_wp2_with (go_at_call 28; refine (Bits_any _ _ _ _ hx.out hf.out hgd.out).mono ?_; rintro e w1 ⟨rfl, hb1⟩; have hst := store_bools_new (P := Try.prog) w1 29; have hb1 := Lib.hid hb1)
  clear hst
  have hs1 := hb1.out.size
  go_loopw [4, 5] (fun v i wr => ∃ k : Nat, k ≤ 4096 ∧ i = .int .i64 k ∧ OwnI wr (w1.heap.size + 1) v (numsL (maskS xs) k) ∧ Marked wr w1.heap.size 29 (maskS xs) ∧ Below w.heap.size w wr)
    (fun _ i _ => 4096 - (intOf i).toNat)
  case atStart => exact ⟨0, by omega, rfl, (by have := World.ownsRow_made (w1.alloc (.cells (bools (maskS xs)) 29)) (e := 3) (base := w1.heap.size + 1) (size := 1) #[] 0 (by simp) (by decide) (by simp); simpa [OwnI, numsL] using this), (Marked.new _ _ _).alloc _, (hb1.out.alloc hs1 _).alloc (by simp; omega) _⟩
  case round =>
    obtain ⟨k, hk, rfl, hown, hmr, hb⟩ := hrel
    have hnl := numsL_length (maskS xs) k
    by_cases hlt : k < 4096
    · have c1 := hmr.cell hlt
      have hlt0 := hmr.lt
      have hsz := hb.size
      have hb := Lib.hid hb
      have hmr := Lib.hid hmr
      have hown := Lib.hid hown
      cases hfk : maskS xs k
      · rw [hfk] at c1
        go_wp2
        go_roundw
        case rel => exact ⟨k + 1, by omega, by go_num, by rw [numsL_succ, hfk]; exact hown.out, hmr.out, hb.out⟩
        case measure => simp [intOf] <;> omega
      · rw [hfk] at c1
        go_wp2_with (at_builtin; go_loud (refine wpList_push rfl _ _ 32 rfl (w1.heap.size + 1) 3 i0 _ 1 8 Try.underlying32 hi hz0 hz1 hz2 rfl (by decide) u4 _ _ wr rfl hown.out.row 1 #[.int .i64 k] rfl rfl rfl (by omega) (by omega) hlt0 ?_); intro v' w' ho hg hv; obtain ⟨g, cap, rfl⟩ := hv; have hg := Lib.hid hg; have ho := Lib.hid ho)
        go_roundw
        case rel => exact ⟨k + 1, by omega, by go_num, by rw [numsL_succ, hfk]; exact OwnI.pushed ho.out, hmr.out.pushed hown.out.row hg.out (by omega), Below.pushed hb.out hown.out.row hg.out (by omega) hsz⟩
        case measure => simp [intOf] <;> omega
    · obtain rfl : k = 4096 := by omega
      go_wp2
      go_ret
      exact ⟨_, rfl, hown.le (by omega), hb⟩

/-- in either (0), in the first alone (1), in both (2) -/
def mixB (how : Int) (x y : Bool) : Bool := if how = 0 then x || y else if how = 1 then x && !y else x && y

theorem Marked.mix {w : World} {B T : Nat} {f g : Nat → Bool} {how : Int} {k : Nat} {v : Bool} (h : Marked w B T fun j => if j < k then mixB how (f j) (g j) else f j) (hv : v = mixB how (f k) (g k)) :
    Marked (w.setCell ⟨B, k, none⟩ (.bool v)) B T fun j => if j < k + 1 then mixB how (f j) (g j) else f j :=
  (h.set k v).congr fun j _ => by
    by_cases e : j = k
    · subst e; simp [hv]
    · have h1 : j < k + 1 ↔ j < k := by omega
      simp only [e, if_false, h1]

end Go.Proofs.Ythnncohkdgaipaa
