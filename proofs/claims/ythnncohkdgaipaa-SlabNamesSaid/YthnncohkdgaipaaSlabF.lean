/- What a map tells of sectors that are this: all, Commit, Taken, Waiting. -/
import Derived.Test.YthnncohkdgaipaaSlabC
import Derived.Test.YthnncohkdgaipaaWant
namespace Go.Proofs.Ythnncohkdgaipaa
open Go.ChangeShapes Go.WideShapes Go.ChangeAt Go.RowKit
set_option linter.unusedVariables false
set_option maxRecDepth 20000

theorem info_arr (f : Nat → Nat) : (Try.prog.info? 48).map (·.size) = some (stsL f).length := by rw [stsL_length]; kernel_rfl
theorem info_map (f : Nat → Nat) : (Try.prog.info? 50).map (·.size) = some (stsL f).length := by rw [stsL_length]; kernel_rfl

theorem MapAt.range {w : World} {B : Nat} {f : Nat → Nat} (h : MapAt w B f) : w.rangeAt B 0 (stsL f) := Blk.range h fun j v hv => by rw [Nat.zero_add]; exact hv

/-- which sectors are this -/
def allB (f : Nat → Nat) (s : Nat) (j : Nat) : Bool := f j == s
def allL (f : Nat → Nat) (s : Nat) : List Int := numsL (allB f s) 1024

theorem arr_get (f : Nat → Nat) {i : Nat} (h : i < 1024) : (stsL f).toArray[i]? = some (.int .u8 (f i : Int)) := by simp [stsL_get f h]

/-- 'a[i]' of such an array by value -/
theorem idx_arr (cs : Array Value) (k : Nat) (hk : k < 1024) (v : Value) (hv : cs[k]? = some v) (w : World) :
    Sem.run Try.prog (Instr.index 48 (.agg cs) (.int .i64 (k : Int))) w = .ok v w := by
  have hu : Try.prog.underlying 48 = some (.array 1024 47) := by kernel_rfl
  simp [Instr.index, run_underlying hu, asIntOf, hk, part, hv, go_sem]

set_option maxHeartbeats 2000000 in
theorem all_any (B : Nat) (f : Nat → Nat) (zs : Int) (s : Nat) (hs : zs = s) (w : World) (hm : MapAt w B f) :
    Calls Try.prog 26 #[.pointer (some ⟨B, 0, none⟩), .int .u8 zs] w fun e w' => ∃ v, e = .returned v ∧ OwnI w' w.heap.size v (allL f s) ∧ Below w.heap.size w w' := by
  have hBw := hm.lt
  have Hs := Lib.hid hs
  clear hs
  obtain ⟨i0, hi, hz0, hz1, hz2⟩ := info_parts sInfoInt
  have hm := Lib.hid hm
  have hsz := stsL_length f
  have hget := Lib.hid (fun (i : Nat) (h : i < 1024) => arr_get f h)
  go_enter Try.func26, Try.ntmps26
  go_wp2_with (refine wpList_load_mid rfl 48 _ rfl B 0 (by rfl) (stsL f) _ hm.out.range Try.underlying48 rfl (info_arr f) ?_)
  obtain ⟨cs, hcs⟩ : ∃ cs, cs = (stsL f).toArray := ⟨_, rfl⟩
  rw [← hcs]
  have hcz : cs.size = 1024 := by rw [hcs]; simp [stsL_length]
  have hget : Hid (∀ i : Nat, i < 1024 → cs[i]? = some (.int .u8 (f i : Int))) := Lib.hid (by rw [hcs]; exact hget.out)
  clear hcs
  go_loopw [5, 12] (fun l i wr => ∃ k : Nat, k ≤ 1024 ∧ i = .int .i64 k ∧ OwnI wr w.heap.size l (numsL (allB f s) k) ∧ Below w.heap.size w wr)
    (fun _ i _ => 1024 - (intOf i).toNat)
  case atStart => exact ⟨0, by omega, rfl, World.ownsRow_nil _ _ _ _, Below.refl _ _⟩
  case round =>
    obtain ⟨k, hk, rfl, hown, hb⟩ := hrel
    have hnl := numsL_length (allB f s) k
    by_cases hlt : k < 1024
    · have c1 := hget.out k hlt
      have hb0 := hb.size
      have hb := Lib.hid hb
      have hown := Lib.hid hown
      by_cases hf : f k = s
      · have hix := idx_arr cs k hlt _ c1 wr
        have hfk : Hid (allB f s k = true) := Lib.hid (by simp [allB, hf])
        rw [hf, ← Hs.out] at hix
        clear c1
        have Hf := Lib.hid hf
        clear hf
        go_wp2_with (at_builtin; go_loud (refine wpList_push rfl _ _ 32 rfl w.heap.size 3 i0 _ 1 8 Try.underlying32 hi hz0 hz1 hz2 rfl (by decide) u5 _ _ wr rfl hown.out.row 1 #[.int .i64 k] rfl rfl rfl (by omega) (by omega) hb0 ?_); intro v' w' ho hg hv; obtain ⟨g, cap, rfl⟩ := hv; have hg := Lib.hid hg; have ho := Lib.hid ho)
        go_roundw
        case rel => exact ⟨k + 1, by omega, by go_num, by rw [numsL_succ, hfk.out]; exact OwnI.pushed ho.out, Below.pushed hb.out hown.out.row hg.out (Nat.le_refl _) hb0⟩
        case measure => simp [intOf] <;> omega
      · have hix := idx_arr cs k hlt _ c1 wr
        clear c1
        have hfk : Hid (allB f s k = false) := Lib.hid (by simp [allB, hf])
        have hne : ((f k : Int) == zs) = false := by rw [Hs.out]; simp; omega
        have Hf := Lib.hid hf
        clear hf
        go_wp2
        go_roundw
        case rel => exact ⟨k + 1, by omega, by go_num, by rw [numsL_succ, hfk.out]; exact hown.out, hb.out⟩
        case measure => simp [intOf] <;> omega
    · obtain rfl : k = 1024 := by omega
      go_wp2
      go_ret
      exact ⟨_, rfl, hown, hb⟩

set_option maxHeartbeats 1000000 in
theorem Taken_any (B : Nat) (f : Nat → Nat) (w : World) (hm : MapAt w B f) :
    Calls Try.prog 11 #[.pointer (some ⟨B, 0, none⟩)] w fun e w' => ∃ v, e = .returned v ∧ OwnS w' w.heap.size v (runs (maskOf (allL f 2)) 4096) ∧ Below w.heap.size w w' := by
  have hm := Lib.hid hm
  have hfi : Hid (FitsI (allL f 2)) := Lib.hid (numsL_map _ _ (by omega))
  go_enter Try.func11, Try.ntmps11
  go_wp2_with fail
  refine (all_any B f 2 2 rfl w hm.out).mono ?_
  rintro e w1 ⟨v, rfl, ho, hb⟩
  obtain ⟨ao, cap, rfl, hn⟩ := ho.nums
  have hs := hb.size
  have hb := Lib.hid hb
  have hn := Lib.hid hn
  clear ho
  go_wp2_with fail
  refine (sOf_any ao cap _ w1 hn.out hfi.out).mono ?_
  rintro e w2 ⟨v, rfl, ho, hb2⟩
  have ho := Lib.hid ho
  have hb2 := Lib.hid hb2
  go_wp2
  go_ret
  exact ⟨_, rfl, ho.out.le hs, hb.out.trans (hb2.out.mono hs)⟩

set_option maxHeartbeats 1000000 in
theorem Waiting_any (B : Nat) (f : Nat → Nat) (w : World) (hm : MapAt w B f) :
    Calls Try.prog 18 #[.pointer (some ⟨B, 0, none⟩)] w fun e w' => ∃ v, e = .returned v ∧ OwnS w' w.heap.size v (runs (maskOf (allL f 3)) 4096) ∧ Below w.heap.size w w' := by
  have hm := Lib.hid hm
  have hfi : Hid (FitsI (allL f 3)) := Lib.hid (numsL_map _ _ (by omega))
  go_enter Try.func18, Try.ntmps18
  go_wp2_with fail
  refine (all_any B f 3 3 rfl w hm.out).mono ?_
  rintro e w1 ⟨v, rfl, ho, hb⟩
  obtain ⟨ao, cap, rfl, hn⟩ := ho.nums
  have hs := hb.size
  have hb := Lib.hid hb
  have hn := Lib.hid hn
  clear ho
  go_wp2_with fail
  refine (sOf_any ao cap _ w1 hn.out hfi.out).mono ?_
  rintro e w2 ⟨v, rfl, ho, hb2⟩
  have ho := Lib.hid ho
  have hb2 := Lib.hid hb2
  go_wp2
  go_ret
  exact ⟨_, rfl, ho.out.le hs, hb.out.trans (hb2.out.mono hs)⟩

/-- what a Commit has done so far -/
def comF (f : Nat → Nat) (zs : List Int) (j : Nat) : Nat := if (j : Int) ∈ zs then 1 else f j

theorem comF_snoc (f : Nat → Nat) (zs : List Int) (m : Nat) : comF f (zs ++ [(m : Int)]) = upd (comF f zs) m 1 := by
  funext j
  unfold comF upd
  by_cases e : j = m
  · subst e; simp
  · have : ¬ (j : Int) = (m : Int) := fun h => e (by omega)
    simp [e, this]

theorem allL_mem (f : Nat → Nat) (s : Nat) (z : Int) : z ∈ allL f s ↔ ∃ j : Nat, z = j ∧ j < 1024 ∧ f j = s := by
  unfold allL numsL allB
  simp only [List.mem_map, List.mem_filter, List.mem_range]
  constructor
  · rintro ⟨j, ⟨h1, h2⟩, rfl⟩; exact ⟨j, rfl, h1, by simpa using h2⟩
  · rintro ⟨j, rfl, h1, h2⟩; exact ⟨j, ⟨h1, by simp [h2]⟩, rfl⟩

theorem comF_all (f : Nat → Nat) {j : Nat} (hj : j < 1024) : comF f (allL f 3) j = commitF f j := by
  unfold comF commitF
  by_cases h : f j = 3
  · rw [if_pos h, if_pos ((allL_mem f 3 _).2 ⟨j, rfl, hj, h⟩)]
  · rw [if_neg h, if_neg]
    intro hm
    obtain ⟨k, e, _, hk⟩ := (allL_mem f 3 _).1 hm
    have : j = k := by omega
    subst this
    exact h hk

set_option maxHeartbeats 1000000 in
theorem Commit_any (B : Nat) (f : Nat → Nat) (w : World) (hm : MapAt w B f) :
    Calls Try.prog 15 #[.pointer (some ⟨B, 0, none⟩)] w fun e w' => e = .returned (.tuple #[]) ∧ MapAt w' B (commitF f) ∧ Kept (· = B) w w' := by
  have hBw := hm.lt
  have hm := Lib.hid hm
  obtain ⟨zs, hzs⟩ : ∃ zs, zs = allL f 3 := ⟨_, rfl⟩
  have hfi : Hid (FitsI zs) := Lib.hid (by rw [hzs]; exact numsL_map _ _ (by omega))
  have hzl : zs.length ≤ 1024 := by rw [hzs]; exact numsL_length _ _
  have hmem : Hid (∀ z ∈ zs, ∃ j : Nat, z = j ∧ j < 1024) := Lib.hid fun z hz => by
    rw [hzs] at hz
    obtain ⟨j, e, h, _⟩ := (allL_mem f 3 z).1 hz
    exact ⟨j, e, h⟩
  have Hz := Lib.hid hzs
  clear hzs
  have hcall : Hid (Calls Try.prog 26 #[.pointer (some ⟨B, 0, none⟩), .int .u8 3] w fun e w' => ∃ v, e = .returned v ∧ OwnI w' w.heap.size v zs ∧ Below w.heap.size w w') := Lib.hid (by rw [Hz.out]; exact all_any B f 3 3 rfl w hm.out)
  go_enter Try.func15, Try.ntmps15
  go_wp2_with fail
  refine hcall.out.mono ?_
  rintro e w1 ⟨v, rfl, ho, hb⟩
  obtain ⟨ao, cap, rfl, hn, hlo⟩ := ho.shape
  have hs := hb.size
  have hm1 : MapAt w1 B f := hm.out.below hb hBw
  have hb := Lib.hid hb
  have hn := Lib.hid hn
  have hlo := Lib.hid hlo
  have hm1 := Lib.hid hm1
  clear ho hcall
  go_wp2
  go_loopw [7] (fun i wr => ∃ k : Nat, k ≤ zs.length ∧ i = .int .i64 k ∧ MapAt wr B (comF f (zs.take k)) ∧ Kept (· = B) w1 wr)
    (fun i _ => zs.length - (intOf i).toNat)
  case atStart => exact ⟨0, by omega, rfl, hm1.out.congr (fun i _ => by simp [comF]), Kept.refl _ _⟩
  case round =>
    obtain ⟨k, hk, rfl, hmr, hkp⟩ := hrel
    have hsz := hkp.size
    by_cases hlt : k < zs.length
    · obtain ⟨b, off, z, rfl, hd, ht, c1, hbb, hz1, hz2⟩ := hn.out.get hfi.out hlt
      obtain ⟨hgb, hgl⟩ := hlo.out _ rfl
      simp only at hgb hgl
      obtain ⟨m, hzm, hm4⟩ := hmem.out z (List.mem_of_mem_drop (i := k) (by rw [hd.out]; exact List.mem_cons_self))
      subst hzm
      have c1 := (hkp.cell (p := ⟨b, off + k, none⟩) hgl (by show ¬ b = B; omega)).trans c1
      have c2 := hmr.cell hm4
      have f2 := hmr.frozen m
      have hlt2 := hmr.lt
      have hmr := Lib.hid hmr
      have hkp := Lib.hid hkp
      go_wp2
      go_roundw
      case rel => exact ⟨k + 1, by omega, by go_num, by rw [ht.out, comF_snoc]; exact hmr.out.set m 1, hkp.out.setCell (p := ⟨B, m, none⟩) rfl _⟩
      case measure => simp [intOf] <;> omega
    · obtain rfl : k = zs.length := by omega
      go_wp2
      go_end0
      refine ⟨rfl, hmr.congr (fun i hi => ?_), (Kept.of_below hb.out _).trans hkp⟩
      rw [List.take_length, Hz.out, comF_all f hi]
end Go.Proofs.Ythnncohkdgaipaa
