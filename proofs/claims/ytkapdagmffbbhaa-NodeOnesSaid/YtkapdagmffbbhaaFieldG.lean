/- field.Get and the document's Get answer the same numbers, for every input. -/
import Derived.Test.YtkapdagmffbbhaaFieldF
namespace Go.Proofs.Ytkapdagmffbbhaa
open Go.ChangeShapes Go.WideShapes Go.ChangeAt Go.RowKit
set_option linter.unusedVariables false
set_option maxRecDepth 20000

/-- the numbers of bytes -/
def getL : List Int → List UInt8 → Option (List Nat)
  | [], [] => some []
  | [], _ :: _ => none
  | x :: ws, b => if 1 ≤ x ∧ x ≤ 8 ∧ x.toNat ≤ b.length then (getL ws (b.drop x.toNat)).map (valB (b.take x.toNat) :: ·) else none

theorem getL_length {ws : List Int} {b : List UInt8} {zs : List Nat} (h : getL ws b = some zs) : okW ws = true ∧ b.length = sumW ws ∧ zs.length = ws.length := by
  induction ws generalizing b zs with
  | nil =>
    cases b with
    | nil => simp [getL] at h; subst h; exact ⟨rfl, rfl, rfl⟩
    | cons z zs => simp [getL] at h
  | cons x ws ih =>
    unfold getL at h
    split at h
    · rename_i hc
      cases h' : getL ws (b.drop x.toNat) with
      | none => rw [h'] at h; simp at h
      | some l =>
        rw [h'] at h
        simp at h
        subst h
        obtain ⟨h1, h2, h3⟩ := ih h'
        refine ⟨by simp [okW, h1, hc.1, hc.2.1], ?_, by simp [h3]⟩
        simp only [List.length_drop] at h2
        simp only [sumW]
        omega
    · cases h

theorem getL_bad {ws : List Int} {b : List UInt8} (h : okW ws = false ∨ b.length ≠ sumW ws) : getL ws b = none := by
  cases e : getL ws b with
  | none => rfl
  | some zs =>
    obtain ⟨h1, h2, _⟩ := getL_length e
    rcases h with h | h
    · rw [h] at h1; cases h1
    · exact absurd h2 h

theorem getL_fit {ws : List Int} {b : List UInt8} {zs : List Nat} (h : getL ws b = some zs) : ∀ z ∈ zs, z < 18446744073709551616 := by
  induction ws generalizing b zs with
  | nil =>
    cases b with
    | nil => simp [getL] at h; subst h; intro z hz; cases hz
    | cons z zs => simp [getL] at h
  | cons x ws ih =>
    unfold getL at h
    split at h
    · rename_i hc
      cases h' : getL ws (b.drop x.toNat) with
      | none => rw [h'] at h; simp at h
      | some l =>
        rw [h'] at h
        simp at h
        subst h
        intro z hz
        rcases List.mem_cons.1 hz with rfl | hz
        · exact valB_lt_64 _ (by simp; omega)
        · exact ih h' z hz
    · cases h

theorem getL_step {ws : List Int} {b r : List UInt8} {k n : Nat} {zs : List Nat} (h : getL ws b = (getL (ws.drop k) r).map (zs ++ ·)) (hw : ws.drop k = (n : Int) :: ws.drop (k + 1)) (h1 : 1 ≤ n) (h8 : n ≤ 8) (hf : n ≤ r.length) :
    getL ws b = (getL (ws.drop (k + 1)) (r.drop n)).map ((zs ++ [valB (r.take n)]) ++ ·) := by
  rw [h, hw]
  have e : (n : Int).toNat = n := by omega
  have hc : 1 ≤ (n : Int) ∧ (n : Int) ≤ 8 ∧ n ≤ r.length := ⟨by omega, by omega, hf⟩
  simp only [getL, e, if_pos hc, Option.map_map', List.append_assoc, List.singleton_append]

theorem getL_stop {ws : List Int} {b r : List UInt8} {k : Nat} {x : Int} {zs : List Nat} (h : getL ws b = (getL (ws.drop k) r).map (zs ++ ·)) (hw : ws.drop k = x :: ws.drop (k + 1)) (hf : ¬ (1 ≤ x ∧ x ≤ 8 ∧ x.toNat ≤ r.length)) :
    getL ws b = none := by
  rw [h, hw]
  simp only [getL, if_neg hf, Option.map_none]

theorem getL_end {ws : List Int} {b r : List UInt8} {k : Nat} {zs : List Nat} (h : getL ws b = (getL (ws.drop k) r).map (zs ++ ·)) (h1 : ws.length ≤ k) : getL ws b = if r.length = 0 then some zs else none := by
  rw [h, List.drop_of_length_le h1]
  cases r <;> simp [getL]

/-- what a Get answers -/
def GetRes (o : Option (List Nat)) (w : World) (e : Ending) (w' : World) : Prop :=
  ∃ v, e = .returned (.tuple #[v, .int .i64 (errN o)]) ∧ Own w' w.heap.size 27 v (u64V (o.getD [])) ∧ Below w.heap.size w w'

theorem GetRes.no {o : Option (List Nat)} {w w' : World} {e : Ending} (ho : o = none) (he : e = .returned (.tuple #[.slice none 0 0, .int .i64 21])) (hb : Below w.heap.size w w') : GetRes o w e w' := by
  subst ho
  exact ⟨_, he, Own.nil _ _ _, hb⟩

theorem Bytes.shift {w : World} {ao : Option Addr} {bs : List UInt8} (h : Bytes w ao bs) {cap l : Nat} (hc : bs.length ≤ cap) : Bytes w (shiftA ao cap l) (bs.drop l) := by
  have := Reads.shift h (cap := cap) (l := l) (by rw [bytesV_length]; exact hc)
  simpa [Bytes, bytesV] using this
theorem Bytes.take {w : World} {ao : Option Addr} {bs : List UInt8} (h : Bytes w ao bs) (n : Nat) : Bytes w ao (bs.take n) := by
  have := Reads.take h n
  simpa [Bytes, bytesV] using this

theorem sum_split {ws : List Int} {k : Nat} {x : Int} (hd : ws.drop k = x :: ws.drop (k + 1)) (ht : ws.take (k + 1) = ws.take k ++ [x]) : sumW (ws.drop k) = x.toNat + sumW (ws.drop (k + 1)) := by
  rw [hd]; rfl

theorem get_n (ro : Option Addr) (rc : Nat) (rs : List UInt8) (n : Nat) (w : World) (h : Bytes w ro rs) (hn : n ≤ rs.length) (h8 : n ≤ 8) :
    Calls Try.prog 34 #[.slice ro n rc] w fun e w' => e = .returned (.int .u64 (valB (rs.take n) : Int)) ∧ w = w' := by
  have hl : (rs.take n).length = n := by simp; omega
  have := get_any ro rc (rs.take n) w (by have := Reads.take h n; simpa [Bytes, bytesV] using this) (by omega)
  rwa [hl] at this

set_option maxHeartbeats 2000000 in
theorem Get_any (ao bo : Option Addr) (cap cap' : Nat) (ws : List Int) (bs : List UInt8) (w : World) (hx : Ints w ao ws) (hy : Bytes w bo bs) (hf : I64s ws) (hc : bs.length ≤ cap') (hm : cap' ≤ 9223372036854775807) :
    Calls Try.prog 30 #[.slice ao ws.length cap, .slice bo bs.length cap'] w (GetRes (getL ws bs) w) := by
  obtain ⟨i0, hi, hz0, hz1, hz2⟩ := info_parts infoU64
  have hl := hf.2
  have hx := Lib.hid hx
  have hy := Lib.hid hy
  have hT := Lib.hid (total_any ao cap ws w hx.out hf)
  have hf := Lib.hid hf
  cases hok : okW ws with
  | false =>
    have hno := Lib.hid (getL_bad (b := bs) (.inl hok))
    have hT0 := hT.out
    rw [hok] at hT0
    clear hT
    have hT := Lib.hid hT0
    clear hT0 hok
    go_enter Try.func30, Try.ntmps30
    go_wp2_with fail
    refine hT.out.mono ?_
    rintro e w' ⟨rfl, rfl⟩
    go_wp2
    go_ret2
    exact GetRes.no hno.out rfl (Below.refl _ _)
  | true =>
    have hs := sumW_le hok
    have hT0 := hT.out
    rw [hok, show totalN ws = sumW ws from by simp [totalN, hok]] at hT0
    clear hT
    have hT := Lib.hid hT0
    clear hT0
    by_cases hlen : bs.length = sumW ws
    · rw [← hlen] at hT
      have hok' := Lib.hid hok
      clear hok
      have hle := Lib.hid hlen
      clear hlen
      have hmk := fun w => run_make1 (P := Try.prog) 61 27 i0 (.int .u64 0) Try.underlying61 hi hz0 hz1 ws.length (by rw [hz2]; omega) (by omega) w
      have hO := Lib.hid (Own.madeN w (Value.int .u64 0).cells ws.length (base := w.heap.size) (e := 27) (Nat.le_refl _) (by unfold maxLen; omega))
      have hB := Lib.hid ((Below.refl w.heap.size w).alloc (Nat.le_refl _) (.cells (madeCells (Value.int .u64 0).cells ws.length) 27))
      go_enter Try.func30, Try.ntmps30
      go_wp2_with fail
      refine hT.out.mono ?_
      rintro e w' ⟨rfl, rfl⟩
      clear hT
      go_wp2
      go_loopw [1, 8, 10, 29] (fun c b _ j wr => ∃ (k : Nat) (zs : List Nat) (ro : Option Addr) (rs : List UInt8) (rc : Nat), k ≤ ws.length ∧ j = .int .i64 k ∧ c = .slice ro rs.length rc ∧ rs.length ≤ rc ∧ rc ≤ 9223372036854775807 ∧ Hid (Bytes w ro rs) ∧ Hid (rs.length = sumW (ws.drop k)) ∧ Hid (zs.length = k) ∧ Own wr w.heap.size 27 b (u64V zs) ∧ Hid (getL ws bs = (getL (ws.drop k) rs).map (zs ++ ·)) ∧ Below w.heap.size w wr)
        (fun _ _ _ j _ => ws.length - (intOf j).toNat)
      case atStart => exact ⟨0, [], bo, bs, cap', by omega, rfl, rfl, hc, by omega, hy, hle, Lib.hid rfl, hO.out, Lib.hid (by simp), hB.out⟩
      case round =>
        obtain ⟨k, zs, ro, rs, rc, hk, rfl, rfl, hrc, hrm, hr, hrl, hzl, ho, hh, hb⟩ := hrel
        by_cases hlt : k < ws.length
        · obtain ⟨b, off, x, rfl, c1, hbb, hxk, hd, _, hx1, hx2⟩ := (show Ints _ _ _ from Reads.below hx.out hb).at hf.out hlt
          obtain ⟨h1, h8⟩ := okW_mem hok'.out x (List.mem_of_getElem? hxk.out)
          obtain ⟨n, rfl⟩ := Int.eq_ofNat_of_zero_le (a := x) (by omega)
          have h1 : 1 ≤ n := by omega
          have h8 : n ≤ 8 := by omega
          have hnr : n ≤ rs.length := by rw [hrl.out, hd.out]; simp only [sumW]; omega
          have hsz := hb.size
          have hG := Lib.hid (get_n ro rc rs n wr (Reads.below hr.out hb) hnr h8)
          have hvl := valB_lt_64 (rs.take n) (by simp; omega)
          have k1 : ∀ w, (Instr.slice 46 (.slice ro rs.length rc) none (some (.int .i64 (n : Int))) none).run Try.prog w = .ok (.slice ro n rc) w := fun w => run_cut_h 46 5 Try.underlying46 cells5 ro rs.length rc n (by omega) w
          have k2 : ∀ w, (Instr.slice 46 (.slice ro rs.length rc) (some (.int .i64 (n : Int))) none none).run Try.prog w = .ok (.slice (shiftA ro rc n) (rs.drop n).length (rc - n)) w := fun w => by rw [List.length_drop]; exact run_cut_l 46 5 Try.underlying46 cells5 ro rs.length rc n (by omega) w
          have hZ := Lib.hid (show (zs ++ [valB (rs.take n)]).length = k + 1 by simp [hzl.out])
          have hDl := Lib.hid (show (rs.drop n).length = sumW (ws.drop (k + 1)) by have e1 := hrl.out; rw [hd.out] at e1; simp only [sumW] at e1; simp only [List.length_drop]; omega)
          have hzl2 : zs.length ≤ k := by rw [hzl.out]; exact Nat.le_refl _
          have hrs' : (rs.drop n).length ≤ rc - n := by simp; omega
          have ho' := Lib.hid ho
          have hb' := Lib.hid hb
          have hbl : ∀ g, u8.ownBlock = some g → w.heap.size ≤ g := fun g hg => (ho.lt g hg).1
          have hbl := Lib.hid hbl
          generalize hV : valB (rs.take n) = V at *
          have hV' := Lib.hid hV
          clear hV ho hb
          go_wp2_with fail
          refine hG.out.mono ?_
          rintro e w1 ⟨rfl, rfl⟩
          go_wp2_with (at_builtin; go_loud (refine wpList_own_push rfl _ _ 61 rfl w.heap.size 27 i0 (.int .u64 0) 8 Try.underlying61 hi hz0 hz1 hz2 rfl u8 _ wr rfl ho'.out 1 (.int .u64 (V : Int)) rfl rfl (by simp [u64V_length]; omega) (by simp [u64V_length]; omega) (by omega) ?_); intro v' w' ho2 hg2; have ho2 := Lib.hid ho2; have hg2 := Lib.hid hg2)
          go_roundw
          case rel => exact ⟨k + 1, zs ++ [V], shiftA ro rc n, rs.drop n, rc - n, by omega, by go_num, by rw [List.length_drop], hrs', by omega, Lib.hid (Bytes.shift hr.out hrc), hDl, hZ, (by have := ho2.out; rw [u64V_append]; exact this), Lib.hid (by rw [← hV'.out]; exact getL_step hh.out hd.out h1 h8 hnr), hb'.out.trans (hg2.out.out hsz hbl.out)⟩
          case measure => simp [intOf] <;> omega
        · have hend := getL_end hh.out (by omega)
          have h0 : rs.length = 0 := by rw [hrl.out, List.drop_of_length_le (by omega)]; rfl
          rw [if_pos h0] at hend
          have hend := Lib.hid hend
          have ho := Lib.hid ho
          go_wp2
          go_ret2
          rw [hend.out]
          exact ⟨_, rfl, ho.out, hb⟩
    · have hne : ((bs.length : Int) != (sumW ws : Int)) = true := by simp; omega
      have hno := Lib.hid (getL_bad (ws := ws) (b := bs) (.inr hlen))
      clear hlen hok
      go_enter Try.func30, Try.ntmps30
      go_wp2_with fail
      refine hT.out.mono ?_
      rintro e w' ⟨rfl, rfl⟩
      go_wp2
      go_ret2
      exact GetRes.no hno.out rfl (Below.refl _ _)
end Go.Proofs.Ytkapdagmffbbhaa
