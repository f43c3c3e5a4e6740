/- span.Of answers the set of any numbers. -/
import Derived.Test.YtlbglcmajbhflaaSpanE
namespace Go.Proofs.Ytlbglcmajbhflaa
open Go.ChangeShapes Go.WideShapes Go.ChangeAt Go.RowKit
set_option linter.unusedVariables false
set_option maxRecDepth 20000

/-- a list of numbers in memory, at whatever address -/
def Nums (w : World) (ao : Option Addr) (zs : List Int) : Prop :=
  ∀ i (h : i < zs.length), ∃ b off, ao = some ⟨b, off, none⟩ ∧ w.cell? ⟨b, off + i, none⟩ = some (.int .i64 zs[i])

def FitsI (zs : List Int) : Prop := (∀ z ∈ zs, I64 z) ∧ zs.length * 8 ≤ 140737488351232

theorem Nums.below {w w' : World} {ao : Option Addr} {zs : List Int} (h : Nums w ao zs) (hb : Below w.heap.size w w') : Nums w' ao zs := by
  intro i hi
  obtain ⟨b, off, e, c1⟩ := h i hi
  exact ⟨b, off, e, (hb.cell (cell_lt c1)).trans c1⟩

theorem Nums.get {w : World} {ao : Option Addr} {zs : List Int} (h : Nums w ao zs) (hf : FitsI zs) {k : Nat} (hk : k < zs.length) :
    ∃ b off z, ao = some ⟨b, off, none⟩ ∧ Hid (zs.drop k = z :: zs.drop (k + 1)) ∧ Hid (zs.take (k + 1) = zs.take k ++ [z]) ∧ w.cell? ⟨b, off + k, none⟩ = some (.int .i64 z) ∧
      b < w.heap.size ∧ -9223372036854775808 ≤ z ∧ z ≤ 9223372036854775807 := by
  obtain ⟨b, off, e, c1⟩ := h k hk
  obtain ⟨h1, h2⟩ := hf.1 _ (List.getElem_mem hk)
  exact ⟨b, off, _, e, List.drop_eq_getElem_cons hk, (by rw [List.take_succ_eq_append_getElem hk] : zs.take (k + 1) = zs.take k ++ [zs[k]]), c1, cell_lt c1, h1, h2⟩

/-- which numbers are among these -/
def maskOf (zs : List Int) (j : Nat) : Bool := decide ((j : Int) ∈ zs)

theorem Marked.congr {w : World} {B T : Nat} {f g : Nat → Bool} (h : Marked w B T f) (he : ∀ i, i < 4096 → f i = g i) : Marked w B T g := by
  unfold Marked at *
  have : bools f = bools g := by
    have e : (List.range 4096).map (fun i => Value.bool (f i)) = (List.range 4096).map (fun i => Value.bool (g i)) := List.map_congr_left fun i hi => by rw [he i (by simpa using hi)]
    unfold bools
    rw [e]
  rw [← this, h]

theorem mask_in {zs : List Int} {m : Nat} (j : Nat) : maskOf (zs ++ [(m : Int)]) j = if j = m then true else maskOf zs j := by
  by_cases h : j = m
  · subst h; simp [maskOf]
  · have : ¬ (j : Int) = m := by omega
    simp [maskOf, h, this]

theorem mask_out {zs : List Int} {z : Int} (h : z < 0 ∨ 4096 ≤ z) (j : Nat) (hj : j < 4096) : maskOf (zs ++ [z]) j = maskOf zs j := by
  have : ¬ (j : Int) = z := by omega
  simp [maskOf, this]

theorem mask_nil (j : Nat) : maskOf [] j = false := by simp [maskOf]

set_option maxHeartbeats 1000000 in
set_option maxRecDepth 20000 in
theorem sOf_any (ao : Option Addr) (cap : Nat) (zs : List Int) (w : World) (hx : Nums w ao zs) (hf : FitsI zs) :
    Calls Try.prog 41 #[.slice ao zs.length cap] w fun e w' => ∃ v, e = .returned v ∧ OwnS w' w.heap.size v (runs (maskOf zs) 4096) ∧ Below w.heap.size w w' := by
  have hl := hf.2
  have hf := Lib.hid hf
  have hx := Lib.hid hx
  have hz := zero48
  go_enter Try.func41, Try.ntmps41
  go_wp2
  go_loopw [8] (fun i wr => ∃ k : Nat, k ≤ zs.length ∧ i = .int .i64 k ∧ Marked wr w.heap.size 76 (maskOf (zs.take k)) ∧ Below w.heap.size w wr)
    (fun i _ => zs.length - (intOf i).toNat)
  case atStart => exact ⟨0, by omega, rfl, (Marked.new w _ _).congr (fun i _ => by simp [maskOf]), (Below.refl _ _).alloc (Nat.le_refl _) _⟩
  case round =>
    obtain ⟨k, hk, rfl, hm, hb⟩ := hrel
    by_cases hlt : k < zs.length
    · obtain ⟨b, off, z, rfl, hd, ht, c1, hbb, hz1, hz2⟩ := (hx.out.below hb).get hf.out hlt
      by_cases hin : 0 ≤ z ∧ z < 4096
      · obtain ⟨h0, h1⟩ := hin
        obtain ⟨m, rfl⟩ := Int.eq_ofNat_of_zero_le h0
        have hm4 : m < 4096 := by omega
        have c2 := hm.cell hm4
        have f2 := hm.frozen m
        have hm := Lib.hid hm
        have hb := Lib.hid hb
        go_wp2
        go_roundw
        case rel => exact ⟨k + 1, by omega, by go_num, (hm.out.set m true).congr (fun j _ => by rw [ht.out, mask_in]), hb.out.setCell (Nat.le_refl _) _⟩
        case measure => simp [intOf] <;> omega
      · have hin' : z < 0 ∨ 4096 ≤ z := by omega
        have hm := Lib.hid hm
        have hb := Lib.hid hb
        rcases hin' with h0 | h0
        · go_wp2
          go_roundw
          case rel => exact ⟨k + 1, by omega, by go_num, hm.out.congr (fun j hj => by rw [ht.out, mask_out (.inl h0) j hj]), hb.out⟩
          case measure => simp [intOf] <;> omega
        · go_wp2
          go_roundw
          case rel => exact ⟨k + 1, by omega, by go_num, hm.out.congr (fun j hj => by rw [ht.out, mask_out (.inr h0) j hj]), hb.out⟩
          case measure => simp [intOf] <;> omega
    · obtain rfl : k = zs.length := by omega
      rw [List.take_length] at hm
      have hb := Lib.hid hb
      have hz := hb.out.size
      go_wp2_with (go_at_call 43; refine (spans_any _ _ _ _ hm).mono ?_; rintro e w' ⟨v, rfl, ho, hb'⟩)
      go_ret
      exact ⟨_, rfl, ho.le hz, hb.out.trans (hb'.mono hz)⟩
end Go.Proofs.Ytlbglcmajbhflaa
