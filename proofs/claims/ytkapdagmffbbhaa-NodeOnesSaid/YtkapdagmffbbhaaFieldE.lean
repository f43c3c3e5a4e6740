/- field.Put and the document's Put answer the same bytes, for every input. -/
import Derived.Test.YtkapdagmffbbhaaFieldD
namespace Go.Proofs.Ytkapdagmffbbhaa
open Go.ChangeShapes Go.WideShapes Go.ChangeAt Go.RowKit
set_option linter.unusedVariables false
set_option maxRecDepth 20000

/-- numbers as bytes -/
def putL : List Int → List Nat → Option (List UInt8)
  | [], [] => some []
  | x :: ws, z :: zs => if 1 ≤ x ∧ x ≤ 8 ∧ z < 256 ^ x.toNat then (putL ws zs).map (leB x.toNat z ++ ·) else none
  | _, _ => none

theorem putL_length {ws : List Int} {zs : List Nat} {b : List UInt8} (h : putL ws zs = some b) : ws.length = zs.length ∧ okW ws = true ∧ b.length = sumW ws := by
  induction ws generalizing zs b with
  | nil =>
    cases zs with
    | nil => simp [putL] at h; subst h; exact ⟨rfl, rfl, rfl⟩
    | cons z zs => simp [putL] at h
  | cons x ws ih =>
    cases zs with
    | nil => simp [putL] at h
    | cons z zs =>
      unfold putL at h
      split at h
      · rename_i hc
        cases h' : putL ws zs with
        | none => rw [h'] at h; simp at h
        | some b' =>
          rw [h'] at h
          simp at h
          subst h
          obtain ⟨h1, h2, h3⟩ := ih h'
          refine ⟨by simp [h1], by simp [okW, h2, hc.1, hc.2.1], by simp [leB_length, h3, sumW]⟩
      · cases h

theorem putL_bad_len {ws : List Int} {zs : List Nat} (h : ws.length ≠ zs.length) : putL ws zs = none := by
  cases e : putL ws zs with
  | none => rfl
  | some b => exact absurd (putL_length e).1 h
theorem putL_bad_w {ws : List Int} {zs : List Nat} (h : okW ws = false) : putL ws zs = none := by
  cases e : putL ws zs with
  | none => rfl
  | some b => have := (putL_length e).2.1; rw [h] at this; cases this

/-- the error's number -/
def errN {α : Type} (o : Option α) : Int := match o with | some _ => 0 | none => 21

theorem shr_zero {z n : Nat} (h : z < 256 ^ n) : (z : Int) / 2 ^ (8 * n) = 0 := by
  rw [two_pow_cast, ← Int.natCast_ediv, Nat.div_eq_of_lt h]; rfl
theorem shr_pos {z n : Nat} (h : ¬ z < 256 ^ n) : ((z : Int) / 2 ^ (8 * n) != 0) = true := by
  rw [two_pow_cast, ← Int.natCast_ediv]
  have hp : 0 < 256 ^ n := Nat.pow_pos (by omega)
  have : 0 < z / 256 ^ n := Nat.div_pos (by omega) hp
  simp only [bne_iff_ne, ne_eq]
  omega

theorem Option.map_map' {α β γ : Type} (f : α → β) (g : β → γ) (o : Option α) : (o.map f).map g = o.map (fun x => g (f x)) := by cases o <;> rfl

theorem putL_step {ws : List Int} {zs : List Nat} {k n z : Nat} {bs : List UInt8} (h : putL ws zs = (putL (ws.drop k) (zs.drop k)).map (bs ++ ·)) (hw : ws.drop k = (n : Int) :: ws.drop (k + 1)) (hz : zs.drop k = z :: zs.drop (k + 1)) (h1 : 1 ≤ n) (h8 : n ≤ 8) (hf : z < 256 ^ n) :
    putL ws zs = (putL (ws.drop (k + 1)) (zs.drop (k + 1))).map ((bs ++ leB n z) ++ ·) := by
  rw [h, hw, hz]
  have e : (n : Int).toNat = n := by omega
  have hc : 1 ≤ (n : Int) ∧ (n : Int) ≤ 8 ∧ z < 256 ^ n := ⟨by omega, by omega, hf⟩
  simp only [putL, if_pos hc, Option.map_map', e, List.append_assoc]

theorem putL_stop {ws : List Int} {zs : List Nat} {k n z : Nat} {bs : List UInt8} (h : putL ws zs = (putL (ws.drop k) (zs.drop k)).map (bs ++ ·)) (hw : ws.drop k = (n : Int) :: ws.drop (k + 1)) (hz : zs.drop k = z :: zs.drop (k + 1)) (hf : ¬ z < 256 ^ n) :
    putL ws zs = none := by
  rw [h, hw, hz]
  have e : (n : Int).toNat = n := by omega
  have hc : ¬ (1 ≤ (n : Int) ∧ (n : Int) ≤ 8 ∧ z < 256 ^ (n : Int).toNat) := by rw [e]; exact fun hh => hf hh.2.2
  simp only [putL, if_neg hc, Option.map_none]

theorem putL_end {ws : List Int} {zs : List Nat} {k : Nat} {bs : List UInt8} (h : putL ws zs = (putL (ws.drop k) (zs.drop k)).map (bs ++ ·)) (h1 : ws.length ≤ k) (h2 : zs.length ≤ k) : putL ws zs = some bs := by
  rw [h, List.drop_of_length_le h1, List.drop_of_length_le h2]; simp [putL]

/-- what a Put answers -/
def PutRes (o : Option (List UInt8)) (w : World) (e : Ending) (w' : World) : Prop :=
  ∃ v, e = .returned (.tuple #[v, .int .i64 (errN o)]) ∧ Own w' w.heap.size 5 v (bytesV (o.getD [])) ∧ Below w.heap.size w w'

theorem PutRes.no {o : Option (List UInt8)} {w w' : World} {e : Ending} (ho : o = none) (he : e = .returned (.tuple #[.slice none 0 0, .int .i64 21])) (hb : Below w.heap.size w w') : PutRes o w e w' := by
  subst ho
  exact ⟨_, he, Own.nil _ _ _, hb⟩

theorem madeB (s : Nat) : (Value.int .u8 0).cells = #[.int .u8 0] := rfl

set_option maxHeartbeats 2000000 in
theorem Put_any (ao bo : Option Addr) (cap cap' : Nat) (ws : List Int) (zs : List Nat) (w : World) (hx : Ints w ao ws) (hy : U64s w bo zs) (hf : I64s ws) (hg : Fit64 zs) :
    Calls Try.prog 26 #[.slice ao ws.length cap, .slice bo zs.length cap'] w (PutRes (putL ws zs) w) := by
  obtain ⟨i0, hi, hz0, hz1, hz2⟩ := info_parts infoU8
  have hl := hf.2
  have hl' := hg.2
  have hx := Lib.hid hx
  have hy := Lib.hid hy
  have hT := Lib.hid (total_any ao cap ws w hx.out hf)
  have hf := Lib.hid hf
  have hg := Lib.hid hg
  cases hok : okW ws with
  | false =>
    have hno := Lib.hid (putL_bad_w (zs := zs) hok)
    have hT0 := hT.out
    rw [hok] at hT0
    clear hT
    have hT := Lib.hid hT0
    clear hT0 hok
    go_enter Try.func26, Try.ntmps26
    go_wp2_with fail
    refine hT.out.mono ?_
    rintro e w' ⟨rfl, rfl⟩
    go_wp2
    go_ret2
    exact PutRes.no hno.out rfl (Below.refl _ _)
  | true =>
    have hs := sumW_le hok
    have hT0 := hT.out
    rw [hok, show totalN ws = sumW ws from by simp [totalN, hok]] at hT0
    clear hT
    have hT := Lib.hid hT0
    clear hT0
    by_cases hlen : zs.length = ws.length
    · have hne : ((zs.length : Int) != (ws.length : Int)) = false := by simp [hlen]
      have hok := Lib.hid hok
      have hlen := Lib.hid hlen
      have hmk := fun w => run_make1 (P := Try.prog) 46 5 i0 (.int .u8 0) Try.underlying46 hi hz0 hz1 (sumW ws) (by rw [hz2]; omega) (by omega) w
      have hO := Lib.hid (Own.madeN w (Value.int .u8 0).cells (sumW ws) (base := w.heap.size) (e := 5) (Nat.le_refl _) (by unfold maxLen; omega))
      have hB := Lib.hid ((Below.refl w.heap.size w).alloc (Nat.le_refl _) (.cells (madeCells (Value.int .u8 0).cells (sumW ws)) 5))
      generalize hS : sumW ws = S at *
      clear hS
      go_enter Try.func26, Try.ntmps26
      go_wp2_with fail
      refine hT.out.mono ?_
      rintro e w' ⟨rfl, rfl⟩
      clear hT
      go_wp2
      go_loopw [8, 9, 10, 29] (fun b _ _ j wr => ∃ (k : Nat) (bs : List UInt8), k ≤ ws.length ∧ j = .int .i64 k ∧ bs.length ≤ 8 * k ∧ Own wr w.heap.size 5 b (bytesV bs) ∧ Hid (putL ws zs = (putL (ws.drop k) (zs.drop k)).map (bs ++ ·)) ∧ Below w.heap.size w wr)
        (fun _ _ _ j _ => ws.length - (intOf j).toNat)
      case atStart => exact ⟨0, [], by omega, rfl, by simp, hO.out, Lib.hid (by simp), hB.out⟩
      case round =>
        obtain ⟨k, bs, hk, rfl, hbl, ho, hh, hb⟩ := hrel
        by_cases hlt : k < ws.length
        · have hlt' : k < zs.length := by have := hlen.out; omega
          obtain ⟨b, off, x, rfl, c1, hbb, hxk, hd, _, hx1, hx2⟩ := (show Ints _ _ _ from Reads.below hx.out hb).at hf.out hlt
          obtain ⟨b', off', z, rfl, c1', hbb', _, hd', _, hz⟩ := (show U64s _ _ _ from Reads.below hy.out hb).at hg.out hlt'
          obtain ⟨h1, h8⟩ := okW_mem hok.out x (List.mem_of_getElem? hxk.out)
          obtain ⟨n, rfl⟩ := Int.eq_ofNat_of_zero_le (a := x) (by omega)
          have h1 : 1 ≤ n := by omega
          have h8 : n ≤ 8 := by omega
          have hsz := hb.size
          have ho := Lib.hid ho
          have hb := Lib.hid hb
          by_cases hfit : z < 256 ^ n
          · have hq := shr_zero hfit
            have hfit := Lib.hid hfit
            go_wp2_with fail
            refine (fPut_any w.heap.size _ bs n z wr ho.out hsz h8 hz (by omega)).mono ?_
            rintro e w1 ⟨v1, rfl, ho1, hg1⟩
            have ho1 := Lib.hid ho1
            have hg1 := Lib.hid hg1
            go_wp2
            go_roundw
            case rel => exact ⟨k + 1, bs ++ leB n z, by omega, by go_num, by simp [leB_length]; omega, ho1.out, Lib.hid (putL_step hh.out hd.out hd'.out h1 h8 hfit.out), hb.out.trans (hg1.out.out hsz (fun g hg => (ho.out.lt g hg).1))⟩
            case measure => simp [intOf] <;> omega
          · have hq := shr_pos hfit
            have hno := Lib.hid (putL_stop hh.out hd.out hd'.out hfit)
            clear hfit
            go_wp2
            go_ret2
            exact PutRes.no hno.out rfl hb.out
        · have hend := Lib.hid (putL_end hh.out (by omega) (by have := hlen.out; omega))
          have ho := Lib.hid ho
          go_wp2
          go_ret2
          rw [hend.out]
          exact ⟨_, rfl, ho.out, hb⟩
    · have hne : ((zs.length : Int) != (ws.length : Int)) = true := by simp; omega
      have hno := Lib.hid (putL_bad_len (ws := ws) (zs := zs) (fun e => hlen e.symm))
      clear hlen hok
      go_enter Try.func26, Try.ntmps26
      go_wp2_with fail
      refine hT.out.mono ?_
      rintro e w' ⟨rfl, rfl⟩
      go_wp2
      go_ret2
      exact PutRes.no hno.out rfl (Below.refl _ _)
end Go.Proofs.Ytkapdagmffbbhaa
