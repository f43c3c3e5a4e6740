/- SlabFull, for every input: the law returns true and each argument reads behind the call as before. No condition. -/
import Derived.Test.YthnncohkdgaipaaSlabJ
namespace Go.Proofs.Ythnncohkdgaipaa.lawSlabFull
open Go.ChangeShapes Go.WideShapes Go.ChangeAt Go.RowKit Go.Deep
set_option linter.unusedVariables false
set_option maxRecDepth 20000

set_option maxHeartbeats 8000000 in
theorem walk (total : Int) (ao : Option Addr) (xs : List (Int × Int)) (cap : Nat) (w : World) (ht : I64 total) (hx : Spans w ao xs) (hf : Fits xs) (hn : ao = none → xs = [] ∧ cap = 0) :
    Calls Try.prog 5 #[.int .i64 total, .slice ao xs.length cap] w fun e w' => e = .returned (.bool true) ∧ Below w.heap.size w w' := by
  have Hx := Lib.hid hx
  have Hf := Lib.hid hf
  have Ht := Lib.hid ht
  have hl := hf.2
  unfold I64 at ht
  clear hx hf hn
  go_enter Try.func5, Try.ntmps5
  go_wp2_with fail
  refine (slabAlive_any w).mono ?_
  rintro e w1 ⟨rfl, b1⟩
  have s1 := b1.size
  have b1 := Lib.hid b1
  go_wp2_with fail
  refine (New_at total w1 Ht.out).mono ?_
  rintro e w2 ⟨B, rfl, hB, m2, b2⟩
  have s2 := b2.size
  have l2 := m2.lt
  have hBw : w.heap.size ≤ B := by omega
  have b2 : Hid (Below w.heap.size w w2) := Lib.hid (b1.out.trans (b2.mono s1))
  have m2 := Lib.hid m2
  clear hB b1
  by_cases h100 : 200 < xs.length
  · go_wp2
    go_ret
    exact ⟨rfl, b2.out⟩
  go_wp2
  go_loopw [35] (fun i wr => ∃ (k : Nat) (f : Nat → Nat), k ≤ xs.length ∧ i = .int .i64 k ∧ MapAt wr B f ∧ Below w.heap.size w wr)
    (fun i _ => xs.length - (intOf i).toNat)
  case atStart => exact ⟨0, _, by omega, rfl, m2.out, b2.out⟩
  case round =>
    obtain ⟨k, f, hk, rfl, hm, hb⟩ := hrel
    by_cases hlt : k < xs.length
    · obtain ⟨b, off, s, n, rfl, hd, c1, c2, hbb, hs1, hs2, hn1, hn2⟩ := (Hx.out.below hb).get Hf.out hlt
      have hlm := hm.lt
      have hbs := hb.size
      have q := Blk.new wr 31 [.int .i64 s, .int .i64 n]
      have m3 := Lib.hid (hm.alloc (.cells #[.int .i64 s, .int .i64 n] 31))
      have hb := Lib.hid hb
      have hm := Lib.hid hm
      have q := Lib.hid q
      go_wp2_with fail
      refine (Take_any B f n _ m3.out (by unfold I64; omega)).mono ?_
      rintro e w3 ⟨rfl, m4, k4⟩
      have q4 := Blk.kept q.out k4 (by show ¬ wr.heap.size = B; omega)
      have c40 : w3.cell? ⟨wr.heap.size, 0, none⟩ = some (.int .i64 s) := by rw [q4.cell]; rfl
      have c41 : w3.cell? ⟨wr.heap.size, 1, none⟩ = some (.int .i64 n) := by rw [q4.cell]; rfl
      have l4 := q4.lt
      clear q4
      have m4 := Lib.hid m4
      have b4 := Lib.hid (Kept.out (hb.out.alloc hbs _) k4 (fun q _ e => by omega) (by simp; omega))
      have s4 := b4.out.size
      clear k4
      by_cases hs : s = 4
      · subst hs
        go_wp2_with fail
        refine (Later_any B _ n _ m4.out (by unfold I64; omega)).mono ?_
        rintro e w5 ⟨rfl, m5, k5⟩
        have b5 := Lib.hid (Kept.out b4.out k5 (fun q _ e => by omega) (by omega))
        have m5 := Lib.hid m5
        clear k5
        go_wp2
        go_roundw
        case rel => exact ⟨k + 1, _, by omega, by go_num, m5.out, b5.out⟩
        case measure => simp [intOf] <;> omega
      · have hne : (s == 4) = false := by simp; omega
        go_wp2
        go_roundw
        case rel => exact ⟨k + 1, _, by omega, by go_num, m4.out, b4.out⟩
        case measure => simp [intOf] <;> omega
    · obtain rfl : k = xs.length := by omega
      have hbs := hb.size
      have hb := Lib.hid hb
      have hlm := hm.lt
      have hm := Lib.hid hm
      obtain ⟨c, hcn⟩ : ∃ c, c = countN f := ⟨_, rfl⟩
      have hcl := countN_le f
      rw [← hcn] at hcl
      have hsum : ∀ k, k ≤ 16 → sumF (roomN f) k ≤ 64 * k := fun k hk => sumF_room_le f k hk
      have hsum16 : Hid (sumF (roomN f) 16 = c) := Lib.hid (by rw [hcn]; rfl)
      have hcount : Hid (Calls Try.prog 10 #[.pointer (some ⟨B, 0, none⟩)] wr fun e w' => e = .returned (.int .i64 (c : Nat)) ∧ wr = w') := Lib.hid ((Count_map B f wr hm.out).mono fun e w' ⟨he, hw⟩ => ⟨by rw [he, hcn], hw.symm⟩)
      have hroom : Hid (∀ k : Nat, k < 16 → Calls Try.prog 21 #[.pointer (some ⟨B, 0, none⟩), .int .i64 (k : Int)] wr fun e w' => e = .returned (.int .i64 (roomN f k : Nat)) ∧ wr = w') := Lib.hid fun k hk =>
        (Room_any B f k wr hm.out (by unfold I64; omega)).mono fun e w' ⟨he, hw⟩ => ⟨by rw [he, roomI_nat f hk], hw.symm⟩
      have Hcn := Lib.hid hcn
      have hsum := Lib.hid hsum
      clear hcn
      go_wp2_with fail
      refine hcount.out.mono ?_
      rintro e w5 ⟨rfl, rfl⟩
      go_wp2
      go_loopw [9, 10] (fun u i wr' => ∃ k : Nat, k ≤ 16 ∧ i = .int .i64 k ∧ u = .int .i64 (sumF (roomN f) k : Nat) ∧ wr' = wr)
        (fun _ i _ => 16 - (intOf i).toNat)
      case atStart => exact ⟨0, by omega, rfl, rfl, rfl⟩
      case round =>
        obtain ⟨k, hk, rfl, rfl, hww⟩ := hrel
        subst hww
        by_cases hlt : k < 16
        · have call1 := Lib.hid (hroom.out k hlt)
          have h1 := hsum.out k hk
          have h2 := roomN_le f k
          have h3 : Hid (sumF (roomN f) (k + 1) = sumF (roomN f) k + roomN f k) := Lib.hid rfl
          generalize sumF (roomN f) k = a at *
          generalize roomN f k = b at *
          go_wp2_with fail
          refine call1.out.mono ?_
          rintro e w5 ⟨rfl, rfl⟩
          go_wp2
          go_roundw
          case rel => exact ⟨k + 1, by omega, by go_num, by rw [h3.out]; simp, trivial⟩
          case measure => simp [intOf] <;> omega
        · obtain rfl : k = 16 := by omega
          rw [show ((16 : Nat) : Int) = 16 from rfl, hsum16.out]
          clear hsum hsum16 hroom
          have hx := manyI_yes f (n := c) (by rw [Hcn.out]; exact Nat.le_refl _)
          obtain ⟨g, hg⟩ : ∃ g, g = manyF f c := ⟨_, rfl⟩
          obtain ⟨L, hL⟩ : ∃ L, L = manyI f c := ⟨_, rfl⟩
          have hLl : L.length = c := by rw [hL, hx.2.1, List.length_map, manyL_length]
          have hg0 : Hid (countN g = 0) := Lib.hid (by
            have := many_count (f := f) c (by rw [Hcn.out]; exact Nat.le_refl _)
            rw [← Hcn.out, ← hg] at this; omega)
          have hx := Lib.hid hx
          have hLl := Lib.hid hLl
          have Hg := Lib.hid hg
          have HL := Lib.hid hL
          clear hg hL
          have hall : Hid (∀ k, k < c → ∃ i, allocI (manyF f k) = i ∧ allocE (manyF f k) = 0 ∧ updO (manyF f k) (allocO (manyF f k)) = manyF f (k + 1)) := Lib.hid fun k hk => by
            have h1 := many_count (f := f) k (by rw [← Hcn.out]; omega)
            rw [← Hcn.out] at h1
            obtain ⟨i, ha1, _, _⟩ := many_step (f := f) (n := k) (by omega)
            exact ⟨i, by unfold allocI; rw [ha1], by unfold allocE; rw [ha1], rfl⟩
          have hend : Hid (allocI g = 0 ∧ allocE g = 71 ∧ updO g (allocO g) = g) := Lib.hid (by
            have h1 := allocO_none.2 hg0.out
            exact ⟨by unfold allocI; rw [h1], by unfold allocE; rw [h1], by rw [h1]; rfl⟩)
          have hone : Hid (manyE g 1 = 71 ∧ manyI g 1 = [] ∧ manyM g 1 = g) := Lib.hid (manyI_no g (by rw [hg0.out]; omega))
          go_wp2_with fail
          refine (Copy_at B f _ hm.out).mono ?_
          rintro e w6 ⟨C, rfl, hC, m6, b6⟩
          have n6 := Lib.hid (hm.out.below b6 hlm)
          have l6 := m6.lt
          have s6 := b6.size
          have m6 := Lib.hid m6
          have b6 := Lib.hid (hb.out.trans (b6.mono hbs))
          clear hcount
          go_wp2_with fail
          refine (Many_nums C f w6 m6.out c (by unfold I64; omega)).mono ?_
          rintro e w7 ⟨a7, c7, rfl, t7, hl7, m7, k7⟩
          rw [← HL.out] at t7 ⊢
          rw [hLl.out, hx.out.1]
          rw [hx.out.2.2, ← Hg.out] at m7
          have n7 : Hid (MapAt w7 B f) := Lib.hid (n6.out.kept k7 (by show ¬ B = C; omega))
          have s7 := k7.size
          have b7 := Lib.hid (Kept.out b6.out k7 (fun q _ e => by omega) (by omega))
          have m7 := Lib.hid m7
          clear k7 hl7 t7
          go_wp2_with fail
          refine (Count_map C g w7 m7.out).mono ?_
          rintro e w8 ⟨rfl, rfl⟩
          rw [hg0.out]
          go_wp2_with fail
          refine (Count_map B f w8 n7.out).mono ?_
          rintro e w9 ⟨rfl, rfl⟩
          rw [← Hcn.out]
          go_wp2
          go_loopw [96] (fun i wr => ∃ k : Nat, k ≤ c ∧ i = .int .i64 k ∧ MapAt wr B (manyF f k) ∧ MapAt wr C g ∧ Below w.heap.size w wr)
            (fun i _ => c - (intOf i).toNat)
          case atStart => exact ⟨0, by omega, rfl, n7.out, m7.out, b7.out⟩
          case round =>
            obtain ⟨k, hk, rfl, n8, m8, b8⟩ := hrel
            have s8 := b8.size
            have l8 := n8.lt
            have l8' := m8.lt
            have n8 := Lib.hid n8
            have m8 := Lib.hid m8
            have b8 := Lib.hid b8
            by_cases hlt : k < c
            · obtain ⟨i, hi1, hi2, hi3⟩ := hall.out k hlt
              have hi3 := Lib.hid hi3
              have hi2 := Lib.hid hi2
              have hi1 := Lib.hid hi1
              go_wp2_with fail
              refine (Alloc_any B _ _ n8.out).mono ?_
              rintro e w10 ⟨rfl, n10, k10⟩
              rw [hi1.out, hi2.out]
              rw [hi3.out] at n10
              have n10 := Lib.hid n10
              have m10 := Lib.hid (m8.out.kept k10 (by show ¬ C = B; omega))
              have b10 := Lib.hid (Kept.out b8.out k10 (fun q _ e => by omega) (by omega))
              clear k10
              go_wp2
              go_roundw
              case rel => exact ⟨k + 1, by omega, by go_num, n10.out, m10.out, b10.out⟩
              case measure => simp [intOf] <;> omega
            · obtain rfl : k = c := by omega
              have n8 : Hid (MapAt wr B g) := Lib.hid (by rw [Hg.out]; exact n8.out)
              go_wp2_with fail
              refine (Alloc_any B _ _ n8.out).mono ?_
              rintro e w10 ⟨rfl, n10, k10⟩
              rw [hend.out.1, hend.out.2.1]
              rw [hend.out.2.2] at n10
              have n10 := Lib.hid n10
              have s10 := k10.size
              have m10 := Lib.hid (m8.out.kept k10 (by show ¬ C = B; omega))
              have b10 := Lib.hid (Kept.out b8.out k10 (fun q _ e => by omega) (by omega))
              clear k10
              go_wp2_with fail
              refine (Many_nums C g _ m10.out 1 (by unfold I64; omega)).mono ?_
              rintro e w11 ⟨a11, c11, rfl, t11, hl11, m11, k11⟩
              rw [hone.out.1, hone.out.2.1]
              rw [hone.out.2.2] at m11
              have n11 : Hid (MapAt w11 B g) := Lib.hid (n10.out.kept k11 (by show ¬ B = C; omega))
              have s11 := k11.size
              have b11 := Lib.hid (Kept.out b10.out k11 (fun q _ e => by omega) (by omega))
              have m11 := Lib.hid m11
              have l11 := m11.out.lt
              clear k11 hl11 t11
              have hfl := Lib.hid (setS_fits g 2)
              obtain ⟨S, hS⟩ : ∃ S, S = setS g 2 := ⟨_, rfl⟩
              rw [← hS] at hfl
              have HS := Lib.hid hS
              clear hS
              go_wp2_with fail
              refine (Taken_set B g _ n11.out).mono ?_
              rintro e w12 ⟨a12, c12, rfl, t12, _, b12⟩
              rw [← HS.out] at t12 ⊢
              have m12 := Lib.hid (m11.out.below b12 l11)
              have s12 := b12.size
              have b12 := Lib.hid (b11.out.trans (b12.mono (by omega)))
              have t12 := Lib.hid t12
              go_wp2_with fail
              refine (Taken_set C g _ m12.out).mono ?_
              rintro e w13 ⟨a13, c13, rfl, t13, _, b13⟩
              rw [← HS.out] at t13 ⊢
              have t12 := Lib.hid (t12.out.below b13)
              have s13 := b13.size
              have b13 := Lib.hid (b12.out.trans (b13.mono (by omega)))
              have t13 := Lib.hid t13
              go_wp2_with fail
              refine (Same_any a12 a13 c12 c13 S S w13 t12.out t13.out hfl.out hfl.out).mono ?_
              rintro e w14 ⟨rfl, b14⟩
              rw [decide_eq_true rfl]
              have b14 := Lib.hid (b13.out.trans (b14.mono (by omega)))
              go_wp2
              go_ret
              exact ⟨rfl, b14.out⟩

theorem own : ownKnob Try.prog.godebug = none := by kernel_rfl
theorem laidOut : laidOutB Try.prog = true := by kernel_rfl

set_option maxRecDepth 100000 in
theorem lifted (os : Os) (started : os.Started) (H : Type) (enc : TypeId × Value → H) :
    ReturnsInHanded {} Try.checked os 5 .any (Rows.slabFullSpec.pre6 enc Try.prog Try.f5 Rows.slabFullRow.domain false) (Rows.slabFullSpec.post enc Try.prog Try.f5 false true false false) := by
  refine returnsInHanded_of_change_sized (C := Try.checked) own started (by kernel_rfl) Try.func5
    (ChangeSpec.witness6 (enc := enc) (C := Try.checked) false ⟨#[], #[.int .i64 0, .slice none 0 0], []⟩ 8 (by kernel_rfl) (by kernel_rfl) (by kernel_rfl) (by kernel_rfl)) ?_
  intro W base args ds gs before hval0 hW hcnd hsz0 _
  have hval : ∀ (j : Nat) t v, Try.f5.params[j]? = some t → args[j]? = some v → Value.okWide Try.prog W .any base t v := hval0
  have hsz : (DataW.weightsEach Try.prog (Try.f5.params.toList ++ Rows.slabFullSpec.plain.varTypes Try.prog) (ds ++ gs)).all (· ≤ reachBytes) = true := hsz0
  have hW' := hW
  obtain ⟨p, q, hA0, hV, rfl, hfz, hnd⟩ := hW
  have hA : DataW.TrodAll enc Try.prog W 0 (fun _ => true) true Try.f5.params.toList args.toList ds p := hA0
  rw [Try.params5] at hA hval hsz
  obtain ⟨v0, vs0, d0, ds0, p0, q0, hargs, rfl, rfl, h0, r0⟩ := trodAll_cons hA
  obtain ⟨v1, vs1, d1, ds1, p1, q1, rfl, rfl, rfl, h1, r1⟩ := trodAll_cons r0
  obtain ⟨rfl, rfl, rfl⟩ := trodAll_nil r1
  obtain rfl : args = #[v0, v1] := by cases args; simp_all
  obtain ⟨rfl, rfl⟩ := trodVars_none hV
  obtain ⟨a0, rfl, rfl, rfl, wf0⟩ := open_int Try.underlying3 (hval 0 3 v0 rfl rfl) h0
  have k1 := h1
  have lt1 : ∀ x ∈ p1, x.block < W.heap.size := by obtain ⟨m, hm⟩ := k1; exact DataW.trod_lt m _ _ _ hm
  obtain ⟨ao1, a1, cap1, rfl, sp1, fi1, nl1⟩ := arg_acts7 h1 (hval 1 28 v1 rfl rfl) (fun es sp e => sized_slice hsz (j := 1) (t := 28) (e := 31) rfl (by rw [e]; rfl) Try.underlying28)
  clear hA0 hval0 hsz0
  refine (walk a0 ao1 a1 cap1 W (wf_i64 wf0) sp1 fi1 nl1).mono fun e W' ⟨he, bel⟩ => ?_
  subst he
  exact ⟨_, rfl, _, _, _, [], _, [], hW', trodAll_mk1 (shut_bool Try.underlying4 _), (trodAll_cons_mk (shut_int Try.underlying3 wf0) (trodAll_cons_mk (Below.trod laidOut (by kernel_rfl) (of_decide_eq_true (by kernel_rfl)) k1 bel lt1) trodAll_mk0)), rfl, bel.frame _, fun h => by cases h⟩

theorem proved : Rows.SlabFullSaid :=
  OpenClaim.holds_of_wide 5 Try.f5 rfl rfl rfl rfl rfl rfl rfl ⟨rfl, rfl, rfl, rfl, rfl⟩ rfl rfl rfl rfl rfl (by kernel_rfl) Try.func5 (by kernel_rfl)
    (of_decide_eq_true (by kernel_rfl)) (by unfold Func.isWrapper; first | (rw [if_pos (by decide +kernel)]; kernel_rfl) | (rw [if_neg (by decide +kernel)]; exact ⟨rfl, rfl⟩))
    (fun os started H enc _ => lifted os started H enc)
end Go.Proofs.Ythnncohkdgaipaa.lawSlabFull
