/- The block of a map; how many of a slab are free; the first of a slice that is so. -/
import Derived.Test.YthnncohkdgaipaaRow
import Derived.Test.YthnncohkdgaipaaSpanR
import Derived.Test.YthnncohkdgaipaaSlabM
namespace Go.Proofs.Ythnncohkdgaipaa
open Go.ChangeShapes Go.WideShapes Go.ChangeAt Go.RowKit
set_option linter.unusedVariables false
set_option maxRecDepth 20000

/-- what each of the 1024 sectors is, as cells -/
def stsL (f : Nat → Nat) : List Value := (List.range 1024).map fun i => Value.int .u8 ((f i : Nat) : Int)

theorem stsL_length (f : Nat → Nat) : (stsL f).length = 1024 := by simp [stsL]
theorem stsL_get (f : Nat → Nat) {i : Nat} (h : i < 1024) : (stsL f)[i]? = some (.int .u8 (f i : Int)) := by simp [stsL, h]
theorem stsL_one (f : Nat → Nat) : ∀ v ∈ stsL f, v.oneCell' = true := by
  intro v hv
  simp only [stsL, List.mem_map] at hv
  obtain ⟨i, _, rfl⟩ := hv
  rfl
theorem stsL_set (f : Nat → Nat) (i v : Nat) : (stsL f).set i (.int .u8 (v : Int)) = stsL (upd f i v) := by
  apply List.ext_getElem?
  intro k
  rw [List.getElem?_set]
  by_cases hk : k < 1024
  · rw [stsL_get _ hk, stsL_get _ hk]
    by_cases e : i = k
    · subst e; simp [stsL_length, hk, upd]
    · have : ¬ k = i := fun h => e h.symm
      simp [e, upd, this]
  · rw [List.getElem?_eq_none (by rw [stsL_length]; omega), List.getElem?_eq_none (by rw [stsL_length]; omega)]
    split <;> simp_all [stsL_length]
theorem stsL_congr {f g : Nat → Nat} (h : ∀ i, i < 1024 → f i = g i) : stsL f = stsL g := by
  unfold stsL
  refine List.map_congr_left fun i hi => ?_
  rw [h i (by simpa using hi)]

/-- block B is a map of which this is told -/
def MapAt (w : World) (B : Nat) (f : Nat → Nat) : Prop := Blk w B 50 (stsL f)

section
variable {w w' : World} {B : Nat} {f : Nat → Nat} {F : Nat → Prop}
theorem MapAt.lt (h : MapAt w B f) : B < w.heap.size := Blk.lt h
theorem MapAt.cell (h : MapAt w B f) {i : Nat} (hi : i < 1024) : w.cell? ⟨B, i, none⟩ = some (.int .u8 (f i : Int)) := by rw [Blk.cell h, stsL_get f hi]
theorem MapAt.frozen (h : MapAt w B f) (i : Nat) : w.frozen? ⟨B, i, none⟩ = false := Blk.frozen h i
theorem MapAt.drewN (h : MapAt w B f) (n : Nat) : MapAt (w.drewN n) B f := h
theorem MapAt.alloc (h : MapAt w B f) (o : Obj) : MapAt (w.alloc o) B f := Blk.alloc h o
theorem MapAt.kept (h : MapAt w B f) (k : Kept F w w') (hn : ¬ F B) : MapAt w' B f := Blk.kept h k hn
theorem MapAt.below {D : Nat} (h : MapAt w B f) (hb : Below D w w') (hg : B < D) : MapAt w' B f := Blk.below h hb hg
theorem MapAt.set (h : MapAt w B f) (i v : Nat) : MapAt (w.setCell ⟨B, i, none⟩ (.int .u8 (v : Int))) B (upd f i v) := by
  have := Blk.set h i (.int .u8 (v : Int))
  rw [stsL_set] at this
  exact this
theorem MapAt.far (h : MapAt w B f) {p : Addr} (hp : B ≠ p.block) (u : Value) : MapAt (w.setCell p u) B f := Blk.far h hp u
theorem MapAt.congr (h : MapAt w B f) {g : Nat → Nat} (e : ∀ i, i < 1024 → f i = g i) : MapAt w B g := by
  unfold MapAt at *; rw [← stsL_congr e]; exact h
end

theorem drewN_zero (w : World) : w.drewN 0 = w := rfl

theorem state_bytes : ∀ w, (Go.sizeOf 47).run Try.prog w = .ok 1 w := fun w => by kernel_rfl

/-- a part of a map's array -/
theorem cut_arr (B : Nat) (l h : Int) (w : World) (h0 : 0 ≤ l) (h1 : l < h) (h2 : h ≤ 1024) :
    Sem.run Try.prog (Instr.sliceAt 48 (.pointer (some ⟨B, 0, none⟩)) (some (.int .i64 l)) (some (.int .i64 h)) none) w = .ok (.slice (some ⟨B, l.toNat, none⟩) (h - l).toNat (1024 - l.toNat)) w := by
  have hn : Try.prog.arrayLen 48 = 1024 := by kernel_rfl
  have hu : Try.prog.underlying 48 = some (.array (Try.prog.arrayLen 48) (Try.prog.elem 48)) := by kernel_rfl
  have he : Try.prog.elem 48 = 47 := by kernel_rfl
  have hr := run_sliceAt_array_lh (P := Try.prog) w 48 ⟨B, 0, none⟩ hu .i64 .i64 l h h0 (by omega) (by rw [hn]; omega)
  rw [hr, he, state_bytes]
  simp only [Result.andThen, hn, slicedAt]
  rw [if_neg (by omega), Nat.mul_one, Go.WideShapes.add_plain, Nat.zero_add, show h.toNat - l.toNat = (h - l).toNat from by omega]

set_option maxHeartbeats 1000000 in
theorem Room_any (B : Nat) (f : Nat → Nat) (z : Int) (w : World) (hm : MapAt w B f) (hz : I64 z) :
    Calls Try.prog 21 #[.pointer (some ⟨B, 0, none⟩), .int .i64 z] w fun e w' => e = .returned (.int .i64 (roomI f z : Nat)) ∧ w' = w := by
  have hBw := hm.lt
  unfold I64 at hz
  have hm := Lib.hid hm
  by_cases h0 : 0 ≤ z
  · by_cases h1 : z < 16
    · obtain ⟨s, rfl⟩ : ∃ s : Nat, z = s := ⟨z.toNat, by omega⟩
      have hr : roomI f (s : Int) = cntF (fun j => f (64 * s + j) == 1) 64 := roomI_nat f (by omega)
      rw [hr]
      clear hr
      have hcut := cut_arr B ((s : Int) * 64) (((s : Int) + 1) * 64) w (by omega) (by omega) (by omega)
      rw [show (((s : Int) + 1) * 64 - (s : Int) * 64).toNat = 64 from by omega, show ((s : Int) * 64).toNat = 64 * s from by omega] at hcut
      go_enter Try.func21, Try.ntmps21
      go_wp2
      clear hcut
      go_loopw [5, 24] (fun c i wr => ∃ k : Nat, k ≤ 64 ∧ i = .int .i64 k ∧ c = .int .i64 (cntF (fun j => f (64 * s + j) == 1) k : Nat) ∧ wr = w)
        (fun _ i _ => 64 - (intOf i).toNat)
      case atStart => exact ⟨0, by omega, rfl, rfl, rfl⟩
      case round =>
        obtain ⟨k, hk, rfl, rfl, rfl⟩ := hrel
        have hcl := cntF_le (fun j => f (64 * s + j) == 1) k
        by_cases hlt : k < 64
        · have c1 := hm.out.cell (i := 64 * s + k) (by omega)
          have hs1 : cntF (fun j => f (64 * s + j) == 1) (k + 1) = cntF (fun j => f (64 * s + j) == 1) k + if f (64 * s + k) == 1 then 1 else 0 := rfl
          generalize cntF (fun j => f (64 * s + j) == 1) k = c at *
          by_cases hf : f (64 * s + k) = 1
          · rw [hf] at c1
            rw [hf] at hs1
            have hs1 := Lib.hid hs1
            go_wp2
            go_roundw
            case rel => exact ⟨k + 1, by omega, by go_num, by rw [hs1.out]; simp, trivial⟩
            case measure => simp [intOf] <;> omega
          · have hne : ((f (64 * s + k) : Int) == 1) = false := by simp; omega
            have hs1' : Hid (cntF (fun j => f (64 * s + j) == 1) (k + 1) = c) := Lib.hid (by rw [hs1]; simp [hf])
            clear hs1
            have hf := Lib.hid hf
            go_wp2
            go_roundw
            case rel => exact ⟨k + 1, by omega, by go_num, by rw [hs1'.out], trivial⟩
            case measure => simp [intOf] <;> omega
        · obtain rfl : k = 64 := by omega
          go_wp2
          go_ret
          exact ⟨rfl, rfl⟩
    · have hr : roomI f z = 0 := by unfold roomI; rw [if_neg (by omega)]
      rw [hr]
      clear hr
      go_enter Try.func21, Try.ntmps21
      go_wp2
      go_ret
      exact ⟨rfl, rfl⟩
  · have hr : roomI f z = 0 := by unfold roomI; rw [if_neg (by omega)]
    rw [hr]
    clear hr
    go_enter Try.func21, Try.ntmps21
    go_wp2
    go_ret
    exact ⟨rfl, rfl⟩

end Go.Proofs.Ythnncohkdgaipaa
