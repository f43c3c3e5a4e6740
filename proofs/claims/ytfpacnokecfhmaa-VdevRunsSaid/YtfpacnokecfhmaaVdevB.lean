/- A device: the calls that only read it, the count, the power. -/
import Derived.Test.YtfpacnokecfhmaaVdevA
namespace Go.Proofs.Ytfpacnokecfhmaa
open Go.ChangeShapes Go.WideShapes Go.ChangeAt Go.RowKit
set_option linter.unusedVariables false

section
variable (L : DevL) (m : DevM) (w : World) (h : DevAt w L m)
theorem Len_any (h : DevAt w L m) : Calls Try.prog 11 #[.pointer (some ⟨L.d, 0, none⟩)] w fun e w' => e = .returned (.int .i64 (m.stable.length : Int)) ∧ w = w' := by
  have hc0 := h.c0
  have h := Lib.hid h
  go_enter Try.func11, Try.ntmps11
  go_wp2
  go_ret
  exact ⟨rfl, rfl⟩
theorem Pending_any (h : DevAt w L m) : Calls Try.prog 25 #[.pointer (some ⟨L.d, 0, none⟩)] w fun e w' => e = .returned (.int .i64 (m.pending.length : Int)) ∧ w = w' := by
  have hc0 := h.c2
  obtain ⟨ao, cap, hv, _⟩ := owns_form h.pe
  rw [hv] at hc0
  have h := Lib.hid h
  clear hv
  go_enter Try.func25, Try.ntmps25
  go_wp2
  go_ret
  exact ⟨rfl, rfl⟩
theorem Ops_any (h : DevAt w L m) : Calls Try.prog 26 #[.pointer (some ⟨L.d, 0, none⟩)] w fun e w' => e = .returned (.int .i64 (m.ops : Int)) ∧ w = w' := by
  have hc0 := h.c3
  have h := Lib.hid h
  go_enter Try.func26, Try.ntmps26
  go_wp2
  go_ret
  exact ⟨rfl, rfl⟩
theorem Dead_any (h : DevAt w L m) : Calls Try.prog 27 #[.pointer (some ⟨L.d, 0, none⟩)] w fun e w' => e = .returned (.bool m.dead) ∧ w = w' := by
  have hc0 := h.c5
  have h := Lib.hid h
  go_enter Try.func27, Try.ntmps27
  go_wp2
  go_ret
  exact ⟨rfl, rfl⟩

/-- one field of the device's block is another one -/
theorem DevAt.setOps (h : DevAt w L m) (n : Nat) (hn : n ≤ 4611686018427387903) : DevAt (w.setCell ⟨L.d, 3, none⟩ (.int .i64 (n : Int))) L { m with ops := n } :=
  ⟨by have := h.base.set 3 (.int .i64 (n : Int)); simpa using this, h.st.far h.ds.symm _, h.nw.far h.dn.symm _, owns_kept h.pe (Kept.of_setCell (F := (· = L.d)) w (p := ⟨L.d, 3, none⟩) rfl _) (fun g hg e => h.dp (e ▸ hg)), h.ne, ⟨hn, h.fits.left, h.fits.len, h.fits.at_⟩⟩
theorem DevAt.setLeft (h : DevAt w L m) (n : Int) (hn : -9223372036854775808 ≤ n ∧ n ≤ 9223372036854775807) : DevAt (w.setCell ⟨L.d, 4, none⟩ (.int .i64 n)) L { m with left := n } :=
  ⟨by have := h.base.set 4 (.int .i64 n); simpa using this, h.st.far h.ds.symm _, h.nw.far h.dn.symm _, owns_kept h.pe (Kept.of_setCell (F := (· = L.d)) w (p := ⟨L.d, 4, none⟩) rfl _) (fun g hg e => h.dp (e ▸ hg)), h.ne, ⟨h.fits.ops, hn, h.fits.len, h.fits.at_⟩⟩
theorem DevAt.setDead (h : DevAt w L m) (b : Bool) : DevAt (w.setCell ⟨L.d, 5, none⟩ (.bool b)) L { m with dead := b } :=
  ⟨by have := h.base.set 5 (.bool b); simpa using this, h.st.far h.ds.symm _, h.nw.far h.dn.symm _, owns_kept h.pe (Kept.of_setCell (F := (· = L.d)) w (p := ⟨L.d, 5, none⟩) rfl _) (fun g hg e => h.dp (e ▸ hg)), h.ne, ⟨h.fits.ops, h.fits.left, h.fits.len, h.fits.at_⟩⟩

theorem count_any (h : DevAt w L m) : Calls Try.prog 30 #[.pointer (some ⟨L.d, 0, none⟩)] w fun e w' => e = .returned (.tuple #[]) ∧ DevAt w' L m.tick ∧ Kept (· = L.d) w w' ∧ w.heap.size = w'.heap.size := by
  have hc3 := h.c3
  have hz3 := h.fz 3
  have ho := h.fits.ops
  have k1 := h.setOps L m w (min (m.ops + 1) 4611686018427387903) (by omega)
  have k1 := Lib.hid k1
  have h := Lib.hid h
  by_cases hm : m.ops = 4611686018427387903
  · have e1 : min (m.ops + 1) 4611686018427387903 = 4611686018427387903 := by omega
    rw [e1] at k1
    rw [hm] at hc3
    have hm := Lib.hid hm
    have e1 := Lib.hid e1
    go_enter Try.func30, Try.ntmps30
    go_wp2
    go_end0
    refine ⟨rfl, ?_, Kept.cellAt w _ _ _, by simp⟩
    unfold DevM.tick
    rw [e1.out]
    exact k1.out
  · have e1 : min (m.ops + 1) 4611686018427387903 = m.ops + 1 := by omega
    have hlt : m.ops < 4611686018427387903 := by omega
    rw [e1] at k1
    have hm := Lib.hid hm
    have e1 := Lib.hid e1
    go_enter Try.func30, Try.ntmps30
    go_wp2
    go_end0
    refine ⟨rfl, ?_, Kept.cellAt w _ _ _, by simp⟩
    unfold DevM.tick
    rw [e1.out]
    exact k1.out

theorem Break_any (h : DevAt w L m) (n : Int) (hn : I64 n) : Calls Try.prog 19 #[.pointer (some ⟨L.d, 0, none⟩), .int .i64 n] w fun e w' => e = .returned (.tuple #[]) ∧ DevAt w' L (m.brk n) ∧ Kept (· = L.d) w w' ∧ w.heap.size = w'.heap.size := by
  have hc4 := h.c4
  have hz4 := h.fz 4
  have k1 := Lib.hid (h.setLeft L m w n hn)
  have h := Lib.hid h
  have hn := Lib.hid hn
  go_enter Try.func19, Try.ntmps19
  go_wp2
  go_end0
  exact ⟨rfl, k1.out, Kept.cellAt w _ _ _, by simp⟩
end
end Go.Proofs.Ytfpacnokecfhmaa
