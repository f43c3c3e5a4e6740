/- SlabMost, for every input: the law returns true and each argument reads behind the call as before. No condition. -/
import Derived.Test.YthnncohkdgaipaaSlabJ
namespace Go.Proofs.Ythnncohkdgaipaa.lawSlabMost
open Go.ChangeShapes Go.WideShapes Go.ChangeAt Go.RowKit Go.Deep
set_option linter.unusedVariables false
set_option maxRecDepth 20000

theorem alloc_cases (f : Nat → Nat) : (∃ n, allocO f = some n ∧ allocI f = (n : Int) ∧ allocE f = 0) ∨ (countN f = 0 ∧ allocI f = 0 ∧ allocE f = 71) := by
  cases h : allocO f with
  | none => exact .inr ⟨allocO_none.1 h, by unfold allocI; rw [h], by unfold allocE; rw [h]⟩
  | some n => exact .inl ⟨n, rfl, by unfold allocI; rw [h], by unfold allocE; rw [h]⟩

set_option maxHeartbeats 8000000 in
theorem walk (total : Int) (ao : Option Addr) (xs : List (Int × Int)) (cap : Nat) (w : World) (ht : I64 total) (hx : Spans w ao xs) (hf : Fits xs) (hn : ao = none → xs = [] ∧ cap = 0) :
    Calls Try.prog 7 #[.int .i64 total, .slice ao xs.length cap] w fun e w' => e = .returned (.bool true) ∧ Below w.heap.size w w' := by
  have Hx := Lib.hid hx
  have Hf := Lib.hid hf
  have Ht := Lib.hid ht
  have hl := hf.2
  unfold I64 at ht
  clear hx hf hn
  go_enter Try.func7, Try.ntmps7
  go_wp2_with fail
  refine (slabAlive_any w).mono ?_
  rintro e w1 ⟨rfl, b1⟩
  have s1 := b1.size
  have b1 := Lib.hid b1
  go_wp2_with fail
  refine (New_at total w1 Ht.out).mono ?_
  rintro e w2 ⟨B, rfl, hB, m2, b2⟩
  have s2 := b2.size
  have l2 := m2.lt
  have hBw : w.heap.size ≤ B := by omega
  have b2 : Hid (Below w.heap.size w w2) := Lib.hid (b1.out.trans (b2.mono s1))
  have m2 := Lib.hid m2
  clear hB b1
  by_cases h100 : 100 < xs.length
  · go_wp2
    go_ret
    exact ⟨rfl, b2.out⟩
  go_wp2
  go_loopw [28] (fun i wr => ∃ (k : Nat) (f : Nat → Nat), k ≤ xs.length ∧ i = .int .i64 k ∧ MapAt wr B f ∧ Below w.heap.size w wr)
    (fun i _ => xs.length - (intOf i).toNat)
  case atStart => exact ⟨0, _, by omega, rfl, m2.out, b2.out⟩
  case round =>
    obtain ⟨k, f, hk, rfl, hm, hb⟩ := hrel
    by_cases hlt : k < xs.length
    · obtain ⟨b, off, s, n, rfl, hd, c1, c2, hbb, hs1, hs2, hn1, hn2⟩ := (Hx.out.below hb).get Hf.out hlt
      have hlm := hm.lt
      have hbs := hb.size
      have m3 := Lib.hid (hm.alloc (.cells #[.int .i64 s, .int .i64 n] 31))
      have hb := Lib.hid hb
      have hm := Lib.hid hm
      go_wp2_with fail
      refine (Take_any B f n _ m3.out (by unfold I64; omega)).mono ?_
      rintro e w3 ⟨rfl, m4, k4⟩
      have m4 := Lib.hid m4
      have k4 := Lib.hid k4
      go_wp2
      go_roundw
      case rel => exact ⟨k + 1, _, by omega, by go_num, m4.out, Kept.out (hb.out.alloc hbs _) k4.out (fun q _ e => by omega) (by simp; omega)⟩
      case measure => simp [intOf] <;> omega
    · obtain rfl : k = xs.length := by omega
      have hbs := hb.size
      have hb := Lib.hid hb
      have hlm := hm.lt
      have hm := Lib.hid hm
      go_wp2_with fail
      refine (Copy_at B f wr hm.out).mono ?_
      rintro e w3 ⟨C, rfl, hC, m3, b3⟩
      have hCw : w.heap.size ≤ C := by omega
      have s3 := b3.size
      have hm3 := Lib.hid (hm.out.below b3 hlm)
      have lC := m3.lt
      have m3 := Lib.hid m3
      have b3 := Lib.hid (hb.out.trans (b3.mono hbs))
      clear hm
      have hcases := alloc_cases f
      go_wp2_with fail
      refine (Alloc_any B f w3 hm3.out).mono ?_
      rintro e w4 ⟨rfl, m4, k4⟩
      have s4 := k4.size
      have m4 : Hid (MapAt w4 C f) := Lib.hid (m3.out.kept k4 (by show ¬ C = B; omega))
      have b4 := Lib.hid (Kept.out b3.out k4 (fun q _ e => by omega) (by omega))
      clear k4
      rcases hcases with ⟨n, ha, hI, hE⟩ | ⟨h0, hI, hE⟩
      · rw [hI, hE]
        obtain ⟨hn4, hfn, _, hfree⟩ := allocO_some ha
        obtain ⟨q, hq⟩ : ∃ q, q = n / 64 := ⟨_, rfl⟩
        have hqi : (n : Int).tdiv 64 = (q : Int) := by rw [hq, Int.tdiv_eq_ediv_of_nonneg (by omega)]; omega
        have hslab : Hid (∀ k, k < 16 → roomN f k ≤ roomN f q ∧ (k < q → roomN f k < roomN f q)) := Lib.hid fun k hk => by rw [hq]; exact alloc_slab ha hk
        have hq16 : q < 16 := by omega
        have hq1 : 64 * q ≤ n := by omega
        have hq2 : n < 64 * q + 64 := by omega
        have hfree : Hid (∀ j, q * 64 ≤ j → j < n → f j ≠ 1) := Lib.hid (by rw [hq]; exact hfree)
        have hroom : Hid (∀ k : Nat, k < 16 → Calls Try.prog 21 #[.pointer (some ⟨C, 0, none⟩), .int .i64 (k : Int)] w4 fun e w' => e = .returned (.int .i64 (roomN f k : Nat)) ∧ w4 = w') := Lib.hid fun k hk =>
          (Room_any C f k w4 m4.out (by unfold I64; omega)).mono fun e w' ⟨he, hw⟩ => ⟨by rw [he, roomI_nat f hk], hw.symm⟩
        have hfn := Lib.hid hfn
        clear ha hI hE hq
        go_wp2
        go_loopw [11] (fun i wr => ∃ k : Nat, k ≤ 16 ∧ i = .int .i64 k ∧ wr = w4)
          (fun i _ => 16 - (intOf i).toNat)
        case atStart => exact ⟨0, by omega, rfl, rfl⟩
        case round =>
          obtain ⟨k, hk, rfl, hw4⟩ := hrel
          subst hw4
          by_cases hlt : k < 16
          · obtain ⟨g1, g2⟩ := hslab.out k hlt
            have call1 := Lib.hid (hroom.out k hlt)
            have call2 := Lib.hid (hroom.out q hq16)
            obtain ⟨ra, hra⟩ : ∃ r, r = roomN f k := ⟨_, rfl⟩
            obtain ⟨rb, hrb⟩ : ∃ r, r = roomN f q := ⟨_, rfl⟩
            have la := roomN_le f k
            have lb := roomN_le f q
            rw [← hra] at g1 g2 call1 la
            rw [← hrb] at g1 g2 call2 lb
            clear hra hrb
            have hnot : k < q ∧ ra < rb ∨ q ≤ k ∧ ra < rb ∨ q ≤ k ∧ ra = rb := by
              by_cases h : k < q
              · exact .inl ⟨h, g2 h⟩
              · rcases Nat.lt_or_ge ra rb with h' | h'
                · exact .inr (.inl ⟨by omega, h'⟩)
                · exact .inr (.inr ⟨by omega, by omega⟩)
            clear g1 g2
            rcases hnot with ⟨g1, g2⟩ | ⟨g1, g2⟩ | ⟨g1, rfl⟩
            all_goals
              go_wp2_with fail
              refine call1.out.mono ?_
              rintro e w5 ⟨rfl, rfl⟩
              go_wp2_with fail
              refine call2.out.mono ?_
              rintro e w5 ⟨rfl, rfl⟩
              go_wp2_with fail
              refine call1.out.mono ?_
              rintro e w5 ⟨rfl, rfl⟩
              go_wp2_with fail
              refine call2.out.mono ?_
              rintro e w5 ⟨rfl, rfl⟩
              go_wp2
              go_roundw
              case rel => exact ⟨k + 1, by omega, by go_num, trivial⟩
              case measure => simp [intOf] <;> omega
          · obtain rfl : k = 16 := by omega
            clear hslab hroom
            rw [show ((16 : Nat) : Int) = 16 from rfl]
            go_wp2
            go_loopw [12] (fun i wr => ∃ k : Nat, q * 64 ≤ k ∧ k ≤ n ∧ i = .int .i64 k ∧ MapAt wr C f ∧ Below w.heap.size w wr)
              (fun i _ => n - (intOf i).toNat)
            case atStart => exact ⟨q * 64, by omega, by omega, by go_num, m4.out, b4.out⟩
            case round =>
              obtain ⟨k, hk1, hk2, rfl, m5, b5⟩ := hrel
              have s5 := b5.size
              have l5 := m5.lt
              have m5 := Lib.hid m5
              have b5 := Lib.hid b5
              by_cases hlt : k < n
              · have hno : canTurn f (k : Int) 1 = false := by rw [canTurn_nat f (by omega)]; simp [hfree.out k hk1 hlt]
                obtain ⟨e1, e2⟩ := turn_no 2 hno
                have e1 := Lib.hid e1
                clear e2 hno
                go_wp2_with fail
                refine (Copy_at C f _ m5.out).mono ?_
                rintro e w6 ⟨D, rfl, hD, m6, b6⟩
                have m5' := Lib.hid (m5.out.below b6 l5)
                have s6 := b6.size
                have b6 := Lib.hid (b5.out.trans (b6.mono s5))
                have l6 := m6.lt
                have m6 := Lib.hid m6
                go_wp2_with fail
                refine (Take_any D f k _ m6.out (by unfold I64; omega)).mono ?_
                rintro e w7 ⟨rfl, _, k7⟩
                rw [e1.out]
                have b7 := Lib.hid (Kept.out b6.out k7 (fun q _ e => by omega) (by omega))
                have m7 := Lib.hid (m5'.out.kept k7 (by show ¬ C = D; omega))
                clear k7
                go_wp2
                go_roundw
                case rel => exact ⟨k + 1, by omega, by omega, by go_num, m7.out, b7.out⟩
                case measure => simp [intOf] <;> omega
              · obtain rfl : k = n := by omega
                have he := Lib.hid (turn_yes 2 hn4 hfn.out)
                go_wp2_with fail
                refine (Take_any C f _ _ m5.out (by unfold I64; omega)).mono ?_
                rintro e w7 ⟨rfl, _, k7⟩
                rw [he.out.1]
                have b7 := Lib.hid (Kept.out b5.out k7 (fun q _ e => by omega) (by omega))
                clear k7
                go_wp2
                go_ret
                exact ⟨rfl, b7.out⟩
      · rw [hI, hE]
        have h0 := Lib.hid h0
        clear hI hE
        go_wp2_with fail
        refine (Count_map C f w4 m4.out).mono ?_
        rintro e w5 ⟨rfl, rfl⟩
        rw [h0.out]
        go_wp2
        go_ret
        exact ⟨rfl, b4.out⟩

theorem own : ownKnob Try.prog.godebug = none := by kernel_rfl
theorem laidOut : laidOutB Try.prog = true := by kernel_rfl

set_option maxRecDepth 100000 in
theorem lifted (os : Os) (started : os.Started) (H : Type) (enc : TypeId × Value → H) :
    ReturnsInHanded {} Try.checked os 7 .any (Rows.slabMostSpec.pre6 enc Try.prog Try.f7 Rows.slabMostRow.domain false) (Rows.slabMostSpec.post enc Try.prog Try.f7 false true false false) := by
  refine returnsInHanded_of_change_sized (C := Try.checked) own started (by kernel_rfl) Try.func7
    (ChangeSpec.witness6 (enc := enc) (C := Try.checked) false ⟨#[], #[.int .i64 0, .slice none 0 0], []⟩ 8 (by kernel_rfl) (by kernel_rfl) (by kernel_rfl) (by kernel_rfl)) ?_
  intro W base args ds gs before hval0 hW hcnd hsz0 _
  have hval : ∀ (j : Nat) t v, Try.f7.params[j]? = some t → args[j]? = some v → Value.okWide Try.prog W .any base t v := hval0
  have hsz : (DataW.weightsEach Try.prog (Try.f7.params.toList ++ Rows.slabMostSpec.plain.varTypes Try.prog) (ds ++ gs)).all (· ≤ reachBytes) = true := hsz0
  have hW' := hW
  obtain ⟨p, q, hA0, hV, rfl, hfz, hnd⟩ := hW
  have hA : DataW.TrodAll enc Try.prog W 0 (fun _ => true) true Try.f7.params.toList args.toList ds p := hA0
  rw [Try.params7] at hA hval hsz
  obtain ⟨v0, vs0, d0, ds0, p0, q0, hargs, rfl, rfl, h0, r0⟩ := trodAll_cons hA
  obtain ⟨v1, vs1, d1, ds1, p1, q1, rfl, rfl, rfl, h1, r1⟩ := trodAll_cons r0
  obtain ⟨rfl, rfl, rfl⟩ := trodAll_nil r1
  obtain rfl : args = #[v0, v1] := by cases args; simp_all
  obtain ⟨rfl, rfl⟩ := trodVars_none hV
  obtain ⟨a0, rfl, rfl, rfl, wf0⟩ := open_int Try.underlying3 (hval 0 3 v0 rfl rfl) h0
  have k1 := h1
  have lt1 : ∀ x ∈ p1, x.block < W.heap.size := by obtain ⟨m, hm⟩ := k1; exact DataW.trod_lt m _ _ _ hm
  obtain ⟨ao1, a1, cap1, rfl, sp1, fi1, nl1⟩ := arg_acts7 h1 (hval 1 28 v1 rfl rfl) (fun es sp e => sized_slice hsz (j := 1) (t := 28) (e := 31) rfl (by rw [e]; rfl) Try.underlying28)
  clear hA0 hval0 hsz0
  refine (walk a0 ao1 a1 cap1 W (wf_i64 wf0) sp1 fi1 nl1).mono fun e W' ⟨he, bel⟩ => ?_
  subst he
  exact ⟨_, rfl, _, _, _, [], _, [], hW', trodAll_mk1 (shut_bool Try.underlying4 _), (trodAll_cons_mk (shut_int Try.underlying3 wf0) (trodAll_cons_mk (Below.trod laidOut (by kernel_rfl) (of_decide_eq_true (by kernel_rfl)) k1 bel lt1) trodAll_mk0)), rfl, bel.frame _, fun h => by cases h⟩

theorem proved : Rows.SlabMostSaid :=
  OpenClaim.holds_of_wide 7 Try.f7 rfl rfl rfl rfl rfl rfl rfl ⟨rfl, rfl, rfl, rfl, rfl⟩ rfl rfl rfl rfl rfl (by kernel_rfl) Try.func7 (by kernel_rfl)
    (of_decide_eq_true (by kernel_rfl)) (by unfold Func.isWrapper; first | (rw [if_pos (by decide +kernel)]; kernel_rfl) | (rw [if_neg (by decide +kernel)]; exact ⟨rfl, rfl⟩))
    (fun os started H enc _ => lifted os started H enc)
end Go.Proofs.Ythnncohkdgaipaa.lawSlabMost
