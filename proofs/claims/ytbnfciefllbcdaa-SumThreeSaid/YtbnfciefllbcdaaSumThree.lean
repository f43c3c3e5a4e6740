/- SumThree, for every input: the law returns true and each argument reads behind the call as before. No condition. -/
import Derived.Test.YtbnfciefllbcdaaSumE
import Derived.Test.YtbnfciefllbcdaaRegion
namespace Go.Proofs.Ytbnfciefllbcdaa.lawSumThree
open Go.ChangeShapes Go.WideShapes Go.ChangeAt Go.RowKit Go.Deep
set_option linter.unusedVariables false

theorem xor_u8 (x y : UInt8) : bits .xor .u8 (x.toNat : Int) (y.toNat : Int) = ((x ^^^ y).toNat : Int) := by
  rw [u8_xor_nat _ _ x.toNat_lt y.toNat_lt, UInt8.toNat_xor]

set_option maxHeartbeats 4000000 in
theorem way_yes (ao : Option Addr) (xs : List UInt8) (cap : Nat) (bo : Option Addr) (ys : List UInt8) (cap1 : Nat) (co : Option Addr) (zs : List UInt8) (cap2 n : Nat) (w : World) (hx : Bytes w ao xs) (hy : Bytes w bo ys) (hz : Bytes w co zs)
    (h1 : Hid (xs.length = n)) (h2 : Hid (ys.length = n)) (h3 : Hid (zs.length = n)) (hn : n ≤ 5000) :
    Calls Try.prog 7 #[.slice ao n cap, .slice bo n cap1, .slice co n cap2] w fun e w' => e = .returned (.bool true) ∧ Below w.heap.size w w' := by
  obtain ⟨i0, hi, hz0, hz1, hz2⟩ := info_parts infoU8
  have hx := Lib.hid hx
  have hy := Lib.hid hy
  have hz := Lib.hid hz
  have e1 : Hid (xs.length = ys.length) := Lib.hid (h1.out.trans h2.out.symm)
  have e2 : Hid (ys.length = zs.length) := Lib.hid (h2.out.trans h3.out.symm)
  have hd : Hid ((xor3 xs ys zs).length = n) := Lib.hid ((xor3_length e1.out e2.out).trans h1.out)
  have g4 : decide (5000 < (n : Int)) = false := decide_eq_false (by omega)
  go_enter Try.func7, Try.ntmps7
  go_wp2_with fail
  refine (names_any w).mono ?_
  rintro e w0 ⟨rfl, hb0⟩
  have hx := Lib.hid (show Bytes w0 ao xs from Reads.below hx.out hb0)
  have hy := Lib.hid (show Bytes w0 bo ys from Reads.below hy.out hb0)
  have hz := Lib.hid (show Bytes w0 co zs from Reads.below hz.out hb0)
  have hB := Lib.hid ((Below.refl w0.heap.size w0).alloc (Nat.le_refl _) (.cells #[] 5))
  have hO := Lib.hid (Own.made w0 #[] 0 (base := w0.heap.size) (e := 5) (Nat.le_refl _) (by decide) rfl)
  have hb0 := Lib.hid hb0
  go_wp2
  go_loopw [7, 31] (fun v i wr => ∃ k : Nat, k ≤ n ∧ i = .int .i64 k ∧ Own wr w0.heap.size 5 v (bytesV ((xor3 xs ys zs).take k)) ∧ Below w0.heap.size w0 wr)
    (fun _ i _ => n - (intOf i).toNat)
  case atStart => exact ⟨0, by omega, rfl, hO.out, hB.out⟩
  case round =>
    obtain ⟨k, hk, rfl, ho, hb⟩ := hrel
    have hsz := hb.size
    have ho := Lib.hid ho
    by_cases hlt : k < n
    · obtain ⟨b, off, rfl, hc1, lb1⟩ := Reads.byte hx.out (k := k) (by have := h1.out; omega)
      obtain ⟨b', off', rfl, hc2, lb2⟩ := Reads.byte hy.out (k := k) (by have := h2.out; omega)
      obtain ⟨b'', off'', rfl, hc3, lb3⟩ := Reads.byte hz.out (k := k) (by have := h3.out; omega)
      rw [← hb.cell (p := ⟨b, off + k, none⟩) lb1] at hc1
      rw [← hb.cell (p := ⟨b', off' + k, none⟩) lb2] at hc2
      rw [← hb.cell (p := ⟨b'', off'' + k, none⟩) lb3] at hc3
      have hb := Lib.hid hb
      have k0 : (0 : Int) ≤ (k : Int) := by omega
      have k1 : (k : Int) < (n : Int) := by omega
      obtain ⟨p, hp⟩ : ∃ p : UInt8, Hid (p = xs[k]'(by have := h1.out; omega) ^^^ ys[k]'(by have := h2.out; omega)) := ⟨_, Lib.hid rfl⟩
      obtain ⟨q, hq⟩ : ∃ q : UInt8, Hid (q = p ^^^ zs[k]'(by have := h3.out; omega)) := ⟨_, Lib.hid rfl⟩
      have hv1 : bits .xor .u8 ((xs[k]'(by have := h1.out; omega)).toNat : Int) ((ys[k]'(by have := h2.out; omega)).toNat : Int) = (p.toNat : Int) := by rw [hp.out]; exact xor_u8 _ _
      have hv2 : bits .xor .u8 (p.toNat : Int) ((zs[k]'(by have := h3.out; omega)).toNat : Int) = (q.toNat : Int) := by rw [hq.out]; exact xor_u8 _ _
      have hl : Hid ((bytesV ((xor3 xs ys zs).take k)).length ≤ 5000) := Lib.hid (by rw [bytesV_length]; simp; omega)
      go_wp2
      go_region_held3 (fun w' => w'.cell? ⟨b, off + k, none⟩ = some (.int .u8 ((xs[k]'(by have := h1.out; omega)).toNat : Int)) ∧ w'.cell? ⟨b', off' + k, none⟩ = some (.int .u8 ((ys[k]'(by have := h2.out; omega)).toNat : Int)) ∧ w'.cell? ⟨b'', off'' + k, none⟩ = some (.int .u8 ((zs[k]'(by have := h3.out; omega)).toNat : Int)))
        (first | go_keep | exact hkk)
        ((refine step_own_push (by rfl) _ _ 24 (by rfl) w0.heap.size 5 i0 (.int .u8 0) 1 Try.underlying24 hi hz0 hz1 hz2 rfl u7 (bytesV ((xor3 xs ys zs).take k)) wr (by rfl) ho.out 1 (.int .u8 (q.toNat : Int)) (by rfl) rfl (by have := hl.out; omega) (by have := hl.out; omega) hsz ?_
          intro v' w2 ho' hg'
          have hv0 := fun g hg => (ho.out.lt g hg).1
          have hkk := And.intro ((hg'.cell_far (off + k) (Nat.lt_of_lt_of_le lb1 hsz) (fun g hg => Nat.lt_of_lt_of_le lb1 (hv0 g hg))).trans hc1) (And.intro ((hg'.cell_far (off' + k) (Nat.lt_of_lt_of_le lb2 hsz) (fun g hg => Nat.lt_of_lt_of_le lb2 (hv0 g hg))).trans hc2) ((hg'.cell_far (off'' + k) (Nat.lt_of_lt_of_le lb3 hsz) (fun g hg => Nat.lt_of_lt_of_le lb3 (hv0 g hg))).trans hc3))
          clear hv0
          have ho' := Lib.hid ho'
          have hg' := Lib.hid hg'))
      go_wp2
      go_roundw
      case rel => exact ⟨k + 1, by omega, by go_num, (by
        have h := ho'.out
        rw [xor3_snoc (by have := h1.out; omega) (by have := h2.out; omega) (by have := h3.out; omega), bytesV_append, ← hp.out, ← hq.out]
        exact h), hb.out.trans (hg'.out.out hsz (fun g hg => (ho.out.lt g hg).1))⟩
      case measure => simp [intOf] <;> omega
    · obtain rfl : k = n := by omega
      have ht : (xor3 xs ys zs).take k = xor3 xs ys zs := List.take_of_length_le (by have := hd.out; omega)
      have ho2 := ho.out
      rw [ht] at ho2
      obtain ⟨ao2, c2, rfl, _, _, _, hr, _, _⟩ := ho2.shape
      rw [bytesV_length, hd.out]
      have hr := Lib.hid (show Bytes wr ao2 (xor3 xs ys zs) from hr)
      have hb1 := Lib.hid hb
      have hx2 := Lib.hid (show Bytes wr ao xs from Reads.below hx.out hb)
      have hy2 := Lib.hid (show Bytes wr bo ys from Reads.below hy.out hb)
      have hz2' := Lib.hid (show Bytes wr co zs from Reads.below hz.out hb)
      have m1 := crcMore_lt 0 xs
      have m2 := crcMore_lt 0 ys
      have m3 := crcMore_lt 0 zs
      have f1 := Lib.hid (u32_xor_nat _ _ m1 m2)
      have f2 := Lib.hid (u32_xor_nat _ _ (xor_lt_32 m1 m2) m3)
      have f3 := Lib.hid (crcMore_xor3 e1.out e2.out)
      clear ho ho2 ht hb hO
      go_wp2_with fail
      refine (Of_n k ao2 _ c2 _ hr.out hd.out (by omega)).mono ?_
      rintro e w3 ⟨rfl, rfl⟩
      go_wp2_with fail
      refine (Of_n k ao xs cap _ hx2.out h1.out (by omega)).mono ?_
      rintro e w3 ⟨rfl, rfl⟩
      go_wp2_with fail
      refine (Of_n k bo ys cap1 _ hy2.out h2.out (by omega)).mono ?_
      rintro e w3 ⟨rfl, rfl⟩
      go_wp2_with fail
      refine (Of_n k co zs cap2 _ hz2'.out h3.out (by omega)).mono ?_
      rintro e w3 ⟨rfl, rfl⟩
      rw [f1.out, f3.out]
      have f4 : bits .xor .u32 ((crcMore 0 xs ^^^ crcMore 0 ys : Nat) : Int) (crcMore 0 zs : Int) = ((crcMore 0 xs ^^^ crcMore 0 ys ^^^ crcMore 0 zs : Nat) : Int) := f2.out
      generalize crcMore 0 xs ^^^ crcMore 0 ys ^^^ crcMore 0 zs = z1 at *
      go_wp2
      go_ret
      exact ⟨by simp, hb0.out.trans (hb1.out.mono hb0.out.size)⟩

set_option maxHeartbeats 2000000 in
theorem way_no (ao : Option Addr) (n cap : Nat) (bo : Option Addr) (m cap1 : Nat) (co : Option Addr) (l cap2 : Nat) (w : World) (hno : n ≠ m ∨ (n = m ∧ m ≠ l) ∨ (n = m ∧ m = l ∧ 5000 < n)) :
    Calls Try.prog 7 #[.slice ao n cap, .slice bo m cap1, .slice co l cap2] w fun e w' => e = .returned (.bool true) ∧ Below w.heap.size w w' := by
  rcases hno with h | ⟨rfl, h⟩ | ⟨rfl, rfl, h⟩
  · have g1 : ((n : Int) != (m : Int)) = true := by simp; omega
    have g2 : ((n : Int) == (m : Int)) = false := by simp; omega
    go_enter Try.func7, Try.ntmps7
    go_wp2_with fail
    refine (names_any w).mono ?_
    rintro e w1 ⟨rfl, hb1⟩
    have hb1 := Lib.hid hb1
    go_wp2
    go_ret
    exact ⟨rfl, hb1.out⟩
  · have g1 : ((n : Int) != (l : Int)) = true := by simp; omega
    have g2 : ((n : Int) == (l : Int)) = false := by simp; omega
    go_enter Try.func7, Try.ntmps7
    go_wp2_with fail
    refine (names_any w).mono ?_
    rintro e w1 ⟨rfl, hb1⟩
    have hb1 := Lib.hid hb1
    go_wp2
    go_ret
    exact ⟨rfl, hb1.out⟩
  · have g1 : decide (5000 < (n : Int)) = true := decide_eq_true (by omega)
    go_enter Try.func7, Try.ntmps7
    go_wp2_with fail
    refine (names_any w).mono ?_
    rintro e w1 ⟨rfl, hb1⟩
    have hb1 := Lib.hid hb1
    go_wp2
    go_ret
    exact ⟨rfl, hb1.out⟩

theorem walk (ao : Option Addr) (xs : List UInt8) (cap : Nat) (bo : Option Addr) (ys : List UInt8) (cap1 : Nat) (co : Option Addr) (zs : List UInt8) (cap2 : Nat) (w : World) (hx : Bytes w ao xs) (hf : xs.length ≤ cap ∧ cap ≤ 140737488351232) (hn : ao = none → cap = 0)
    (hy : Bytes w bo ys) (hf1 : ys.length ≤ cap1 ∧ cap1 ≤ 140737488351232) (hn1 : bo = none → cap1 = 0) (hz : Bytes w co zs) (hf2 : zs.length ≤ cap2 ∧ cap2 ≤ 140737488351232) (hn2 : co = none → cap2 = 0) :
    Calls Try.prog 7 #[.slice ao xs.length cap, .slice bo ys.length cap1, .slice co zs.length cap2] w fun e w' => e = .returned (.bool true) ∧ Below w.heap.size w w' := by
  by_cases h1 : xs.length = ys.length
  · by_cases h2 : ys.length = zs.length
    · by_cases h3 : 5000 < xs.length
      · exact way_no ao _ cap bo _ cap1 co _ cap2 w (.inr (.inr ⟨h1, h2, h3⟩))
      · have h := way_yes ao xs cap bo ys cap1 co zs cap2 xs.length w hx hy hz rfl h1.symm (h1.trans h2).symm (by omega)
        rw [← h2, ← h1]
        exact h
    · exact way_no ao _ cap bo _ cap1 co _ cap2 w (.inr (.inl ⟨h1, h2⟩))
  · exact way_no ao _ cap bo _ cap1 co _ cap2 w (.inl h1)

theorem own : ownKnob Try.prog.godebug = none := by kernel_rfl
theorem laidOut : laidOutB Try.prog = true := by kernel_rfl

set_option maxRecDepth 100000 in
theorem lifted (os : Os) (started : os.Started) (H : Type) (enc : TypeId × Value → H) :
    ReturnsInHanded {} Try.checked os 7 .any (Rows.sumThreeSpec.pre6 enc Try.prog Try.f7 Rows.sumThreeRow.domain false) (Rows.sumThreeSpec.post enc Try.prog Try.f7 false true false false) := by
  refine returnsInHanded_of_change_sized (C := Try.checked) own started (by kernel_rfl) Try.func7
    (ChangeSpec.witness6 (enc := enc) (C := Try.checked) false ⟨#[], #[.slice none 0 0, .slice none 0 0, .slice none 0 0], []⟩ 8 (by kernel_rfl) (by kernel_rfl) (by kernel_rfl) (by kernel_rfl)) ?_
  intro W base args ds gs before hval0 hW hcnd hsz0 _
  have hval : ∀ (j : Nat) t v, Try.f7.params[j]? = some t → args[j]? = some v → Value.okWide Try.prog W .any base t v := hval0
  have hsz : (DataW.weightsEach Try.prog (Try.f7.params.toList ++ Rows.sumThreeSpec.plain.varTypes Try.prog) (ds ++ gs)).all (· ≤ reachBytes) = true := hsz0
  have hW' := hW
  obtain ⟨p, q, hA0, hV, rfl, hfz, hnd⟩ := hW
  have hA : DataW.TrodAll enc Try.prog W 0 (fun _ => true) true Try.f7.params.toList args.toList ds p := hA0
  rw [Try.params7] at hA hval hsz
  obtain ⟨v0, vs0, d0, ds0, p0, q0, hargs, rfl, rfl, h0, r0⟩ := trodAll_cons hA
  obtain ⟨v1, vs1, d1, ds1, p1, q1, rfl, rfl, rfl, h1, r1⟩ := trodAll_cons r0
  obtain ⟨v2, vs2, d2, ds2, p2, q2, rfl, rfl, rfl, h2, r2⟩ := trodAll_cons r1
  obtain ⟨rfl, rfl, rfl⟩ := trodAll_nil r2
  obtain rfl : args = #[v0, v1, v2] := by cases args; simp_all
  obtain ⟨rfl, rfl⟩ := trodVars_none hV
  have k0 := h0
  have lt0 : ∀ x ∈ p0, x.block < W.heap.size := by obtain ⟨m, hm⟩ := k0; exact DataW.trod_lt m _ _ _ hm
  obtain ⟨ao0, a0, cap0, rfl, sp0, fi0, nl0⟩ := arg_bytes h0 (hval 0 24 v0 rfl rfl) (fun es sp e => sized_slice hsz (j := 0) (t := 24) (e := 5) rfl (by rw [e]; rfl) Try.underlying24)
  have k1 := h1
  have lt1 : ∀ x ∈ p1, x.block < W.heap.size := by obtain ⟨m, hm⟩ := k1; exact DataW.trod_lt m _ _ _ hm
  obtain ⟨ao1, a1, cap1, rfl, sp1, fi1, nl1⟩ := arg_bytes h1 (hval 1 24 v1 rfl rfl) (fun es sp e => sized_slice hsz (j := 1) (t := 24) (e := 5) rfl (by rw [e]; rfl) Try.underlying24)
  have k2 := h2
  have lt2 : ∀ x ∈ p2, x.block < W.heap.size := by obtain ⟨m, hm⟩ := k2; exact DataW.trod_lt m _ _ _ hm
  obtain ⟨ao2, a2, cap2, rfl, sp2, fi2, nl2⟩ := arg_bytes h2 (hval 2 24 v2 rfl rfl) (fun es sp e => sized_slice hsz (j := 2) (t := 24) (e := 5) rfl (by rw [e]; rfl) Try.underlying24)
  clear hA0 hval0 hsz0
  refine (walk ao0 a0 cap0 ao1 a1 cap1 ao2 a2 cap2 W sp0 fi0 nl0 sp1 fi1 nl1 sp2 fi2 nl2).mono fun e W' ⟨he, bel⟩ => ?_
  subst he
  exact ⟨_, rfl, _, _, _, [], _, [], hW', trodAll_mk1 (shut_bool Try.underlying4 _), (trodAll_cons_mk (Below.trod laidOut (by kernel_rfl) (of_decide_eq_true (by kernel_rfl)) k0 bel lt0) (trodAll_cons_mk (Below.trod laidOut (by kernel_rfl) (of_decide_eq_true (by kernel_rfl)) k1 bel lt1) (trodAll_cons_mk (Below.trod laidOut (by kernel_rfl) (of_decide_eq_true (by kernel_rfl)) k2 bel lt2) trodAll_mk0))), rfl, bel.frame _, fun h => by cases h⟩

theorem proved : Rows.SumThreeSaid :=
  OpenClaim.holds_of_wide 7 Try.f7 rfl rfl rfl rfl rfl rfl rfl ⟨rfl, rfl, rfl, rfl, rfl⟩ rfl rfl rfl rfl rfl (by kernel_rfl) Try.func7 (by kernel_rfl)
    (of_decide_eq_true (by kernel_rfl)) (by unfold Func.isWrapper; first | (rw [if_pos (by decide +kernel)]; kernel_rfl) | (rw [if_neg (by decide +kernel)]; exact ⟨rfl, rfl⟩))
    (fun os started H enc _ => lifted os started H enc)
end Go.Proofs.Ytbnfciefllbcdaa.lawSumThree
