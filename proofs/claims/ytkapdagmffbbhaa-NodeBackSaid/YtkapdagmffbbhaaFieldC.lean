/- field.total, field.cut, bytes.Clone. -/
import Derived.Test.YtkapdagmffbbhaaFieldB
namespace Go.Proofs.Ytkapdagmffbbhaa
open Go.ChangeShapes Go.WideShapes Go.ChangeAt Go.RowKit
set_option linter.unusedVariables false
set_option maxRecDepth 20000

def intsV (zs : List Int) : List Value := zs.map (.int .i64)
def Ints (w : World) (ao : Option Addr) (zs : List Int) : Prop := Reads w ao (intsV zs)
def I64s (zs : List Int) : Prop := (∀ z ∈ zs, I64 z) ∧ zs.length * 8 ≤ 140737488351232

theorem intsV_length (zs : List Int) : (intsV zs).length = zs.length := by simp [intsV]
theorem intsV_append (a b : List Int) : intsV (a ++ b) = intsV a ++ intsV b := by simp [intsV]
theorem intsV_one (zs : List Int) : ∀ u ∈ intsV zs, u.oneCell' = true := by
  intro u hu
  simp only [intsV, List.mem_map] at hu
  obtain ⟨b, _, rfl⟩ := hu
  rfl

theorem Ints.at {w : World} {ao : Option Addr} {zs : List Int} (h : Ints w ao zs) (hf : I64s zs) {k : Nat} (hk : k < zs.length) :
    ∃ b off z, ao = some ⟨b, off, none⟩ ∧ w.cell? ⟨b, off + k, none⟩ = some (.int .i64 z) ∧ b < w.heap.size ∧ Hid (zs[k]? = some z) ∧ Hid (zs.drop k = z :: zs.drop (k + 1)) ∧ Hid (zs.take (k + 1) = zs.take k ++ [z]) ∧ -9223372036854775808 ≤ z ∧ z ≤ 9223372036854775807 := by
  obtain ⟨b, off, e, c, hb⟩ := Reads.at h (k := k) (by simpa [intsV_length] using hk)
  obtain ⟨h1, h2⟩ := hf.1 _ (List.getElem_mem hk)
  exact ⟨b, off, _, e, by rw [c]; simp [intsV], hb, List.getElem?_eq_getElem hk, List.drop_eq_getElem_cons hk, take_snoc_b zs k hk, h1, h2⟩

/-- are these widths? -/
def okW : List Int → Bool
  | [] => true
  | x :: r => decide (1 ≤ x ∧ x ≤ 8) && okW r
/-- how many bytes they have together -/
def sumW : List Int → Nat
  | [] => 0
  | x :: r => x.toNat + sumW r

theorem okW_mem {ws : List Int} (h : okW ws = true) : ∀ x ∈ ws, 1 ≤ x ∧ x ≤ 8 := by
  induction ws with
  | nil => intro x hx; cases hx
  | cons a r ih =>
    simp only [okW, Bool.and_eq_true, decide_eq_true_iff] at h
    intro x hx
    rcases List.mem_cons.1 hx with rfl | hx
    · exact h.1
    · exact ih h.2 x hx

theorem okW_of {ws : List Int} (h : ∀ x ∈ ws, 1 ≤ x ∧ x ≤ 8) : okW ws = true := by
  induction ws with
  | nil => rfl
  | cons a r ih =>
    simp only [okW, Bool.and_eq_true, decide_eq_true_iff]
    exact ⟨h a (by simp), ih fun x hx => h x (by simp [hx])⟩

theorem sumW_le {ws : List Int} (h : okW ws = true) : sumW ws ≤ 8 * ws.length := by
  induction ws with
  | nil => simp [sumW]
  | cons a r ih =>
    simp only [okW, Bool.and_eq_true, decide_eq_true_iff] at h
    have := ih h.2
    simp only [sumW, List.length_cons]
    omega

theorem sumW_append (a b : List Int) : sumW (a ++ b) = sumW a + sumW b := by
  induction a with
  | nil => simp [sumW]
  | cons x r ih => simp only [List.cons_append, sumW, ih]; omega

def totalN (ws : List Int) : Nat := if okW ws then sumW ws else 0

set_option maxHeartbeats 1000000 in
theorem total_any (ao : Option Addr) (cap : Nat) (ws : List Int) (w : World) (hx : Ints w ao ws) (hf : I64s ws) :
    Calls Try.prog 32 #[.slice ao ws.length cap] w fun e w' => e = .returned (.tuple #[.int .i64 (totalN ws : Int), .bool (okW ws)]) ∧ w = w' := by
  have hl := hf.2
  have hx := Lib.hid hx
  have hf := Lib.hid hf
  go_enter Try.func32, Try.ntmps32
  go_wp2
  go_loop [4, 6, 9] (fun n x j => ∃ k s : Nat, k ≤ ws.length ∧ j = .int .i64 k ∧ n = .int .i64 (s : Int) ∧ s ≤ 8 * k ∧ Hid (s + sumW (ws.drop k) = sumW ws ∧ okW ws = okW (ws.drop k)))
    (fun _ _ j => ws.length - (intOf j).toNat)
  case atStart => exact ⟨0, 0, by omega, rfl, rfl, by omega, Lib.hid (by simp)⟩
  case round =>
    obtain ⟨k, s, hk, rfl, rfl, hs, hh⟩ := hrel
    by_cases hlt : k < ws.length
    · obtain ⟨b, off, z, rfl, c, hb, _, hd, _, hz1, hz2⟩ := hx.out.at hf.out hlt
      by_cases h1 : 1 ≤ z
      · by_cases h8 : z ≤ 8
        · go_wp2
          go_round
          case rel => exact ⟨k + 1, s + z.toNat, by omega, by go_num, (by congr 1; omega), by omega, Lib.hid (by
            have := hh.out
            rw [hd.out] at this
            simp only [sumW, okW, h1, h8] at this
            exact ⟨by omega, by simpa using this.2⟩)⟩
          case measure => simp [intOf] <;> omega
        · have hno : Hid (okW ws = false ∧ totalN ws = 0) := Lib.hid (by
            have : okW ws = false := by rw [hh.out.2, hd.out]; simp [okW, h8]
            exact ⟨this, by simp [totalN, this]⟩)
          go_wp2
          go_ret2
          rw [hno.out.1, hno.out.2]
          exact ⟨rfl, rfl⟩
      · have hno : Hid (okW ws = false ∧ totalN ws = 0) := Lib.hid (by
          have : okW ws = false := by rw [hh.out.2, hd.out]; simp [okW, h1]
          exact ⟨this, by simp [totalN, this]⟩)
        go_wp2
        go_ret2
        rw [hno.out.1, hno.out.2]
        exact ⟨rfl, rfl⟩
    · have hyes : Hid (okW ws = true ∧ totalN ws = s) := Lib.hid (by
        have e := List.drop_of_length_le (i := k) (l := ws) (by omega)
        have h1 := hh.out
        rw [e] at h1
        have : okW ws = true := by rw [h1.2]; rfl
        exact ⟨this, by simp [totalN, this]; simp [sumW] at h1; omega⟩)
      obtain rfl : k = ws.length := by omega
      go_wp2
      go_ret2
      rw [hyes.out.1, hyes.out.2]
      exact ⟨rfl, rfl⟩

theorem cells5 : ∀ w, (Go.sizeOf 5).run Try.prog w = .ok 1 w := fun _ => by kernel_rfl

end Go.Proofs.Ytkapdagmffbbhaa
