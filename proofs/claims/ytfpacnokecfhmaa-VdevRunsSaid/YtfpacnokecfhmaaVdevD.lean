/- A device: Read. -/
import Derived.Test.YtfpacnokecfhmaaVdevC
namespace Go.Proofs.Ytfpacnokecfhmaa
open Go.ChangeShapes Go.WideShapes Go.ChangeAt Go.RowKit
set_option linter.unusedVariables false

theorem DevM.tick_has (m : DevM) (i : Int) : m.tick.has i = m.has i := rfl

set_option maxHeartbeats 800000 in
theorem Read_in (L : DevL) (m : DevM) (i : Nat) (hi : i < m.stable.length) (w : World) (h : DevAt w L m) :
    Calls Try.prog 13 #[.pointer (some ⟨L.d, 0, none⟩), .int .i64 (i : Int)] w fun e w' => e = .returned (.tuple #[.agg (secL (m.read i).1).toArray, .int .i64 (m.read i).2]) ∧ DevAt w' L m.tick ∧ Kept (· = L.d) w w' := by
  have hl := h.fits.len
  have hh : m.has (i : Int) = true := by simp [DevM.has]; omega
  have hh' : m.tick.has (i : Int) = true := hh
  have hn : i < m.now.length := by rw [DevM.now_length]; exact hi
  have hz := zeroSec
  have h := Lib.hid h
  have hlt := h.out.base.lt
  have hrd : Hid (m.read i = if m.dead then (sec0, 42) else (m.now[i], 0)) := Lib.hid (by simp [DevM.read, hh, hn])
  cases hd : m.dead
  all_goals
    rw [hd] at hrd
    go_enter Try.func13, Try.ntmps13
    go_wp2_with (first
      | ((with_reducible refine (count_any L m _ (h.out.alloc _)).mono ?_)
         rintro e w1 ⟨rfl, h1, k1, z1⟩
         have hb1 := Lib.hid ((Blk.new w 33 (secL sec0)).kept k1 (by omega))
         have z1 : w1.heap.size = w.heap.size + 1 := by simpa using z1.symm
         have c1 := h1.c1
         have c5 := h1.c5
         have d5 : m.tick.dead = m.dead := rfl
         have d0 : m.tick.stable.length = m.stable.length := rfl
         rw [d5, hd] at c5
         rw [d0] at c1
         clear d5 d0
         have r1 := Lib.hid (h1.nwRange (i := i) (by rw [DevM.now_length]; exact hi))
         have h1 := Lib.hid h1
         have k1 := Lib.hid k1)
      | ((with_reducible refine (has_any L m.tick _ _ h1.out (by unfold I64; omega)).mono ?_); rintro e w' ⟨rfl, rfl⟩; rw [hh'])
      | (refine wpList_build rfl 33 _ rfl (secL sec0) built_sec0 ?_)
      | (refine wpList_load_mid rfl 33 _ rfl L.nb (i * 128) (by rfl) (secL m.now[i]) _ r1.out Try.underlying33 rfl (infoSecL _) ?_)
      | (refine wpList_store_blk rfl 33 _ _ rfl w.heap.size 0 (by rfl) _ (by rfl) _ (secL sec0) _ hb1.out (by simp [secL_length]) (secL_one _) (infoSecL _) (whole_new (by simp [secL_length])) ?_
         intro w2 hb2 hk2 hs2
         have hb2 := Lib.hid hb2
         have hk2 := Lib.hid hk2))
    refine bodyPost_ret (results_row_tmp rfl (rowSec hb2.out)) rfl ⟨?_, h1.out.kept hk2.out (fun k hk e => by have := h.out.lt k hk; omega), ?_⟩
    · rw [hrd.out]; rfl
    · exact ((Kept.of_alloc _ w _).trans k1.out).then hk2.out fun k hk e => by omega

set_option maxHeartbeats 800000 in
theorem Read_out (L : DevL) (m : DevM) (i : Int) (hi : I64 i) (hh : m.has i = false) (w : World) (h : DevAt w L m) :
    Calls Try.prog 13 #[.pointer (some ⟨L.d, 0, none⟩), .int .i64 i] w fun e w' => e = .returned (.tuple #[.agg (secL (m.read i).1).toArray, .int .i64 (m.read i).2]) ∧ DevAt w' L m.tick ∧ Kept (· = L.d) w w' := by
  have hh' : m.tick.has i = false := hh
  have hz := zeroSec
  have h := Lib.hid h
  have hlt := h.out.base.lt
  have hrd : Hid (m.read i = (sec0, 41)) := Lib.hid (by simp [DevM.read, hh])
  go_enter Try.func13, Try.ntmps13
  go_wp2_with (first
    | ((with_reducible refine (count_any L m _ (h.out.alloc _)).mono ?_)
       rintro e w1 ⟨rfl, h1, k1, z1⟩
       have hb1 := Lib.hid ((Blk.new w 33 (secL sec0)).kept k1 (by omega))
       have z1 : w1.heap.size = w.heap.size + 1 := by simpa using z1.symm
       have h1 := Lib.hid h1
       have k1 := Lib.hid k1)
    | ((with_reducible refine (has_any L m.tick _ _ h1.out hi).mono ?_); rintro e w' ⟨rfl, rfl⟩; rw [hh'])
    | (refine wpList_build rfl 33 _ rfl (secL sec0) built_sec0 ?_)
    | (refine wpList_store_blk rfl 33 _ _ rfl w.heap.size 0 (by rfl) _ (by rfl) _ (secL sec0) _ hb1.out (by simp [secL_length]) (secL_one _) (infoSecL _) (whole_new (by simp [secL_length])) ?_
       intro w2 hb2 hk2 hs2
       have hb2 := Lib.hid hb2
       have hk2 := Lib.hid hk2))
  refine bodyPost_ret (results_row_tmp rfl (rowSec hb2.out)) rfl ⟨?_, h1.out.kept hk2.out (fun k hk e => by have := h.out.lt k hk; omega), ?_⟩
  · rw [hrd.out]; rfl
  · exact ((Kept.of_alloc _ w _).trans k1.out).then hk2.out fun k hk e => by omega

theorem Read_any (L : DevL) (m : DevM) (i : Int) (hi : I64 i) (w : World) (h : DevAt w L m) :
    Calls Try.prog 13 #[.pointer (some ⟨L.d, 0, none⟩), .int .i64 i] w fun e w' => e = .returned (.tuple #[.agg (secL (m.read i).1).toArray, .int .i64 (m.read i).2]) ∧ DevAt w' L m.tick ∧ Kept (· = L.d) w w' := by
  cases hh : m.has i
  · exact Read_out L m i hi hh w h
  · obtain ⟨k, rfl, hk⟩ := has_nat hh
    exact Read_in L m k hk w h
end Go.Proofs.Ytfpacnokecfhmaa
