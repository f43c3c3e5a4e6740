/- A device: the power; a sector is read. -/
import Derived.Test.YtfpacnokecfhmaaVdevB
import Derived.Test.YtfpacnokecfhmaaRes
namespace Go.Proofs.Ytfpacnokecfhmaa
open Go.ChangeShapes Go.WideShapes Go.ChangeAt Go.RowKit
set_option linter.unusedVariables false

theorem lasts_any (L : DevL) (m : DevM) (w : World) (h : DevAt w L m) : Calls Try.prog 34 #[.pointer (some ⟨L.d, 0, none⟩)] w fun e w' => e = .returned (.bool m.lasts) ∧ DevAt w' L m.spend ∧ Kept (· = L.d) w w' ∧ w.heap.size = w'.heap.size := by
  have hc4 := h.c4
  have hc5 := h.c5
  have hz4 := h.fz 4
  have hz5 := h.fz 5
  have hlt := h.base.lt
  have hl := h.fits.left
  by_cases h0 : m.left = 0
  · have k1 := Lib.hid (h.setDead L m w true)
    have e1 : Hid (m.lasts = false) := Lib.hid (by simp [DevM.lasts, h0])
    have e2 : Hid (m.spend = { m with dead := true }) := Lib.hid (by simp [DevM.spend, e1.out])
    rw [h0] at hc4
    have h := Lib.hid h
    have h0 := Lib.hid h0
    go_enter Try.func34, Try.ntmps34
    go_wp2
    go_ret
    exact ⟨(ret_bool e1.out).symm, by rw [e2.out]; exact k1.out, Kept.cellAt w _ _ _, by simp⟩
  · have g0 : (m.left == 0) = false := by simpa using h0
    cases hd : m.dead
    · rw [hd] at hc5
      have e1 : Hid (m.lasts = true) := Lib.hid (by simp [DevM.lasts, g0, hd])
      by_cases hp : 0 < m.left
      · have e2 : Hid (m.spend = { m with left := m.left - 1 }) := Lib.hid (by simp [DevM.spend, e1.out, hp])
        have k1 := Lib.hid (h.setLeft L m w (m.left - 1) (by omega))
        have h := Lib.hid h
        have hd := Lib.hid hd
        go_enter Try.func34, Try.ntmps34
        go_wp2
        go_ret
        exact ⟨(ret_bool e1.out).symm, by rw [e2.out]; exact k1.out, Kept.cellAt w _ _ _, by simp⟩
      · have e2 : Hid (m.spend = m) := Lib.hid (by simp [DevM.spend, e1.out, hp])
        have h := Lib.hid h
        have hd := Lib.hid hd
        go_enter Try.func34, Try.ntmps34
        go_wp2
        go_ret
        exact ⟨(ret_bool e1.out).symm, by rw [e2.out]; exact h.out, Kept.refl _ w, rfl⟩
    · rw [hd] at hc5
      have e1 : Hid (m.lasts = false) := Lib.hid (by simp [DevM.lasts, hd])
      have e2 : Hid (m.spend = m) := Lib.hid (by unfold DevM.spend; rw [e1.out]; cases m; simp at hd; subst hd; rfl)
      have h := Lib.hid h
      have hd := Lib.hid hd
      go_enter Try.func34, Try.ntmps34
      go_wp2
      go_ret
      exact ⟨(ret_bool e1.out).symm, by rw [e2.out]; exact h.out, Kept.refl _ w, rfl⟩

theorem rowSec {w : World} {g : Nat} {t : TypeId} {s : Sec} (h : Blk w g t (secL s)) : RowRes Try.prog w 33 (.pointer (some ⟨g, 0, none⟩)) (secL s) :=
  ⟨⟨g, t, rfl, h⟩, ⟨_, Try.underlying33, rfl⟩, infoSecL s⟩

set_option maxHeartbeats 400000 in
theorem Stable_in (L : DevL) (m : DevM) (i : Nat) (hi : i < m.stable.length) (w : World) (h : DevAt w L m) :
    Calls Try.prog 28 #[.pointer (some ⟨L.d, 0, none⟩), .int .i64 (i : Int)] w fun e w' => e = .returned (.agg (secL m.stable[i]).toArray) ∧ Below w.heap.size w w' := by
  have hl := h.fits.len
  have hh : m.has (i : Int) = true := by simp [DevM.has]; omega
  have hz := zeroSec
  have h := Lib.hid h
  have hlt := h.out.base.lt
  have c0 := h.out.c0
  have r0 := Lib.hid (h.out.stRange hi)
  go_enter Try.func28, Try.ntmps28
  go_wp2_with (first
    | ((with_reducible refine (has_any L m _ _ (h.out.alloc _) (by unfold I64; omega)).mono ?_); rintro e w' ⟨rfl, rfl⟩)
    | (refine wpList_load_mid rfl 33 _ rfl L.sb (i * 128) (by rfl) (secL m.stable[i]) _ (World.rangeAt_alloc r0.out _) Try.underlying33 rfl (infoSecL _) ?_)
    | (refine wpList_store_blk rfl 33 _ _ rfl w.heap.size 0 (by rfl) (secL m.stable[i]) (by rfl) _ (secL sec0) (secL m.stable[i]) (Blk.new _ _ _) (by simp [secL_length]) (secL_one _) (infoSecL _) (whole_new (by simp [secL_length])) ?_
       intro w1 hb1 hk1 hs1
       have hb1 := Lib.hid hb1
       have hk1 := Lib.hid hk1))
  refine bodyPost_ret (results_row rfl (rowSec hb1.out)) rfl ⟨rfl, ?_⟩
  exact Kept.out ((Below.refl _ _).alloc (Nat.le_refl _) _) hk1.out (fun i _ e => by omega) (by simp)

set_option maxHeartbeats 400000 in
theorem Stable_out (L : DevL) (m : DevM) (i : Int) (hi : I64 i) (hh : m.has i = false) (w : World) (h : DevAt w L m) :
    Calls Try.prog 28 #[.pointer (some ⟨L.d, 0, none⟩), .int .i64 i] w fun e w' => e = .returned (.agg (secL sec0).toArray) ∧ Below w.heap.size w w' := by
  have hz := zeroSec
  have h := Lib.hid h
  go_enter Try.func28, Try.ntmps28
  go_wp2_with (first
    | ((with_reducible refine (has_any L m _ _ (h.out.alloc _) hi).mono ?_); rintro e w' ⟨rfl, rfl⟩; rw [hh])
    | (refine wpList_build rfl 33 _ rfl (secL sec0) built_sec0 ?_)
    | (refine wpList_store_blk rfl 33 _ _ rfl w.heap.size 0 (by rfl) (secL sec0) (by rfl) _ (secL sec0) (secL sec0) (Blk.new _ _ _) (by simp [secL_length]) (secL_one _) (infoSecL _) (whole_new (by simp [secL_length])) ?_
       intro w1 hb1 hk1 hs1
       have hb1 := Lib.hid hb1
       have hk1 := Lib.hid hk1))
  refine bodyPost_ret (results_row rfl (rowSec hb1.out)) rfl ⟨rfl, ?_⟩
  exact Kept.out ((Below.refl _ _).alloc (Nat.le_refl _) _) hk1.out (fun i _ e => by omega) (by simp)

theorem has_nat {m : DevM} {i : Int} (h : m.has i = true) : ∃ k : Nat, i = (k : Int) ∧ k < m.stable.length := by
  simp [DevM.has] at h
  exact ⟨i.toNat, by omega, by omega⟩

theorem Stable_any (L : DevL) (m : DevM) (i : Int) (hi : I64 i) (w : World) (h : DevAt w L m) :
    Calls Try.prog 28 #[.pointer (some ⟨L.d, 0, none⟩), .int .i64 i] w fun e w' => e = .returned (.agg (secL (m.stab i)).toArray) ∧ Below w.heap.size w w' := by
  cases hh : m.has i
  · refine (Stable_out L m i hi hh w h).mono ?_
    rintro e w' ⟨rfl, hb⟩
    exact ⟨by simp [DevM.stab, hh], hb⟩
  · obtain ⟨k, rfl, hk⟩ := has_nat hh
    refine (Stable_in L m k hk w h).mono ?_
    rintro e w' ⟨rfl, hb⟩
    exact ⟨by simp [DevM.stab, hh, hk], hb⟩
end Go.Proofs.Ytfpacnokecfhmaa
