/- The document's own Bits answers the marks of any set. -/
import Derived.Test.YtlbglcmajbhflaaSpanI
namespace Go.Proofs.Ytlbglcmajbhflaa
open Go.ChangeShapes Go.WideShapes Go.ChangeAt Go.RowKit
set_option linter.unusedVariables false
set_option maxRecDepth 20000

/-- which numbers are in a list of spans -/
def maskS (xs : List (Int × Int)) (j : Nat) : Bool := hasL xs (j : Int)

theorem maskS_snoc (xs : List (Int × Int)) (s n : Int) (j : Nat) : maskS (xs ++ [(s, n)]) j = (maskS xs j || decide (s ≤ (j : Int) ∧ (j : Int) < s + n)) := by
  simp [maskS, hasL]

theorem Marked.or_set {w : World} {B T : Nat} {f : Nat → Bool} {s : Int} {i m : Nat} (h : Marked w B T fun j => f j || decide (s ≤ (j : Int) ∧ (j : Int) < s + (i : Int))) (hm : (m : Int) = s + i) (hi : m < 4096) :
    Marked (w.setCell ⟨B, m, none⟩ (.bool true)) B T fun j => f j || decide (s ≤ (j : Int) ∧ (j : Int) < s + ((i + 1 : Nat) : Int)) :=
  (h.set m true).congr fun j _ => by
    by_cases e : j = m
    · subst e
      simp; right; omega
    · have h1 : (s ≤ (j : Int) ∧ (j : Int) < s + ((i + 1 : Nat) : Int)) ↔ (s ≤ (j : Int) ∧ (j : Int) < s + (i : Int)) := by omega
      simp only [e, if_false, h1]

set_option maxHeartbeats 2000000 in
set_option maxRecDepth 20000 in
theorem Bits_any (ao : Option Addr) (cap : Nat) (xs : List (Int × Int)) (w : World) (hx : Spans w ao xs) (hf : Fits xs) (hgd : Good xs) :
    Calls Try.prog 28 #[.slice ao xs.length cap] w fun e w' => e = .returned (.agg (bools (maskS xs))) ∧ Below w.heap.size w w' := by
  have hl := hf.2
  have hf := Lib.hid hf
  have hx := Lib.hid hx
  have hgd := Lib.hid hgd
  have hz := zero47
  have hbs := bools_size
  have hst := store_bools_new (P := Try.prog) (w.alloc (.cells (bools fun _ => false) 48)) 48
  simp only [World.size_alloc] at hst
  go_enter Try.func28, Try.ntmps28
  go_wp2
  clear hst
  go_loopw [10] (fun i wr => ∃ k : Nat, k ≤ xs.length ∧ i = .int .i64 k ∧ Marked wr (w.heap.size + 1) 48 (maskS (xs.take k)) ∧ Marked wr w.heap.size 48 (fun _ => false) ∧ Below w.heap.size w wr)
    (fun i _ => xs.length - (intOf i).toNat)
  case atStart => exact ⟨0, by omega, rfl, (by have := Marked.new (w.alloc (.cells (bools fun _ => false) 48)) 48 (fun _ => false); rw [World.size_alloc] at this; exact this.congr (fun j _ => by simp [maskS, hasL])), (Marked.new w _ _).alloc _, ((Below.refl _ _).alloc (Nat.le_refl _) _).alloc (by simp) _⟩
  case round =>
    obtain ⟨k, hk, rfl, hm, hr, hb⟩ := hrel
    by_cases hlt : k < xs.length
    · obtain ⟨b, off, s, n, rfl, hd, c1, c2, hbb, hs1, hs2, hn1, hn2⟩ := (hx.out.below hb).get hf.out hlt
      obtain ⟨g1, g2, g3⟩ := good_drop hgd.out hd.out
      simp only at g1 g2 g3
      obtain ⟨wo, hwo⟩ : ∃ wo : World, wo = wr := ⟨_, rfl⟩
      have hsz := hb.size
      have hmlt := hm.lt
      have hb := Lib.hid hb
      have hm := Lib.hid hm
      have hr := Lib.hid hr
      subst hwo
      go_wp2
      go_loopw [6] (fun i wi => ∃ m : Nat, (m : Int) ≤ n ∧ i = .int .i64 m ∧ Marked wi (w.heap.size + 1) 48 (fun j => maskS (xs.take k) j || decide (s ≤ (j : Int) ∧ (j : Int) < s + (m : Int))) ∧ Marked wi w.heap.size 48 (fun _ => false) ∧ Below w.heap.size w wi ∧
          wi.cell? ⟨wo.heap.size, 0, none⟩ = some (.int .i64 s) ∧ wi.cell? ⟨wo.heap.size, 1, none⟩ = some (.int .i64 n))
        (fun i _ => n.toNat - (intOf i).toNat)
      case atStart => exact ⟨0, by omega, rfl, (hm.out.alloc _).congr (fun j _ => by simp; intro h1 h2; omega), hr.out.alloc _, hb.out.alloc hsz _, by simp, by simp⟩
      case round =>
        obtain ⟨m, hmn, rfl, hmi, hri, hbi, d1, d2⟩ := hrel
        by_cases hmm : (m : Int) < n
        · obtain ⟨p, hp⟩ := Int.eq_ofNat_of_zero_le (show (0 : Int) ≤ s + m from by omega)
          have hp4 : p < 4096 := by omega
          have c3 := hmi.cell hp4
          have f3 := hmi.frozen p
          have hmi := Lib.hid hmi
          have hri := Lib.hid hri
          have hbi := Lib.hid hbi
          go_wp2
          go_roundw
          case rel => exact ⟨m + 1, by omega, by go_num, hmi.out.or_set (by omega) hp4, hri.out.other _ (by simp), hbi.out.setCell (by simp) _, (World.cell?_of_block (heap_setCell_other _ _ _ _ (by simp; omega))).trans d1, (World.cell?_of_block (heap_setCell_other _ _ _ _ (by simp; omega))).trans d2⟩
          case measure => simp [intOf] <;> omega
        · obtain rfl : n = (m : Int) := by omega
          have hmi := Lib.hid hmi
          have hri := Lib.hid hri
          have hbi := Lib.hid hbi
          go_wp2
          go_roundw
          case rel => exact ⟨k + 1, by omega, by go_num, hmi.out.congr (fun j _ => by rw [take_of_drop hd.out, maskS_snoc]), hri.out, hbi.out⟩
          case measure => simp [intOf] <;> omega
    · obtain rfl : k = xs.length := by omega
      rw [List.take_length] at hm
      have hbB := Lib.hid hb
      have hst2 := fun P => store_bools (P := P) hr (maskS xs)
      have hr2 := Lib.hid hr
      go_wp2_with (first | (refine wpList_load_row rfl 48 _ rfl (w.heap.size + 1) rfl _ _ _ _ hm Try.underlying48 rfl (by kernel_rfl) ?_))
      exact bodyPost_ret (v := .agg (bools (maskS xs))) (results_cell_row rfl _ _ w.heap.size _ _ _ _ rfl (hr2.out.setRow (maskS xs)) Try.underlying48 rfl (by kernel_rfl)) rfl ⟨rfl, below_setRow' hbB.out _ _ (Nat.le_refl _)⟩
end Go.Proofs.Ytlbglcmajbhflaa
