/- SlabTurns, for every input: the law returns true and each argument reads behind the call as before. No condition. -/
import Derived.Test.YthnncohkdgaipaaSlabJ
namespace Go.Proofs.Ythnncohkdgaipaa.lawSlabTurns
open Go.ChangeShapes Go.WideShapes Go.ChangeAt Go.RowKit Go.Deep
set_option linter.unusedVariables false
set_option maxRecDepth 20000

set_option maxHeartbeats 8000000 in
theorem walk (total : Int) (ao : Option Addr) (xs : List (Int × Int)) (cap : Nat) (i : Int) (w : World) (ht : I64 total) (hx : Spans w ao xs) (hf : Fits xs) (hn : ao = none → xs = [] ∧ cap = 0) (hi : I64 i) :
    Calls Try.prog 6 #[.int .i64 total, .slice ao xs.length cap, .int .i64 i] w fun e w' => e = .returned (.bool true) ∧ Below w.heap.size w w' := by
  have Hx := Lib.hid hx
  have Hf := Lib.hid hf
  have Ht := Lib.hid ht
  have Hi := Lib.hid hi
  have hl := hf.2
  unfold I64 at ht hi
  clear hx hf hn
  go_enter Try.func6, Try.ntmps6
  go_wp2_with fail
  refine (slabAlive_any w).mono ?_
  rintro e w1 ⟨rfl, b1⟩
  have s1 := b1.size
  have b1 := Lib.hid b1
  go_wp2_with fail
  refine (New_at total w1 Ht.out).mono ?_
  rintro e w2 ⟨B, rfl, hB, m2, b2⟩
  have s2 := b2.size
  have l2 := m2.lt
  have hBw : w.heap.size ≤ B := by omega
  have b2 : Hid (Below w.heap.size w w2) := Lib.hid (b1.out.trans (b2.mono s1))
  have m2 := Lib.hid m2
  clear hB b1
  by_cases h100 : 100 < xs.length
  · go_wp2
    go_ret
    exact ⟨rfl, b2.out⟩
  go_wp2
  go_loopw [28] (fun i wr => ∃ (k : Nat) (f : Nat → Nat), k ≤ xs.length ∧ i = .int .i64 k ∧ MapAt wr B f ∧ Hid (Calm7 f) ∧ Below w.heap.size w wr)
    (fun i _ => xs.length - (intOf i).toNat)
  case atStart => exact ⟨0, _, by omega, rfl, m2.out, Lib.hid (newS_calm total), b2.out⟩
  case round =>
    obtain ⟨k, f, hk, rfl, hm, hc, hb⟩ := hrel
    by_cases hlt : k < xs.length
    · obtain ⟨b, off, s, n, rfl, hd, c1, c2, hbb, hs1, hs2, hn1, hn2⟩ := (Hx.out.below hb).get Hf.out hlt
      have hlm := hm.lt
      have hbs := hb.size
      have m3 := Lib.hid (hm.alloc (.cells #[.int .i64 s, .int .i64 n] 31))
      have hb := Lib.hid hb
      have hm := Lib.hid hm
      go_wp2_with fail
      refine (Take_any B f n _ m3.out (by unfold I64; omega)).mono ?_
      rintro e w3 ⟨rfl, m4, k4⟩
      have m4 := Lib.hid m4
      have k4 := Lib.hid k4
      go_wp2
      go_roundw
      case rel => exact ⟨k + 1, _, by omega, by go_num, m4.out, Lib.hid (take_calm hc.out n), Kept.out (hb.out.alloc hbs _) k4.out (fun q _ e => by omega) (by simp; omega)⟩
      case measure => simp [intOf] <;> omega
    · obtain rfl : k = xs.length := by omega
      have hbs := hb.size
      have hb := Lib.hid hb
      have hm := Lib.hid hm
      go_wp2_with fail
      refine (Taken_set B f wr hm.out).mono ?_
      rintro e w3 ⟨a3, c3, rfl, t3, hla, b3⟩
      have hlm := hm.out.lt
      have m3 := Lib.hid (hm.out.below b3 hlm)
      have s3 := b3.size
      have hne : Hid (∀ a, a3 = some a → ¬ a.block = B) := Lib.hid fun a ha e => by have := hla a ha; omega
      have b3 := Lib.hid (hb.out.trans (b3.mono hbs))
      have t3 := Lib.hid t3
      have hfl := Lib.hid (setS_fits f 2)
      obtain ⟨L, hL⟩ : ∃ L, L = setS f 2 := ⟨_, rfl⟩
      rw [← hL] at t3 hfl ⊢
      have HL := Lib.hid hL
      clear hL hm hla
      go_wp2_with fail
      refine (Count_map B f w3 m3.out).mono ?_
      rintro e w4 ⟨rfl, rfl⟩
      obtain ⟨c, hcn⟩ : ∃ c, c = countN f := ⟨_, rfl⟩
      have hcl := countN_le f
      rw [← hcn] at hcl ⊢
      have Hcn := Lib.hid hcn
      clear hcn
      have hsame : Hid (∀ (W : World) (g : Nat → Nat), MapAt W B g → setS g 2 = L → Spans W a3 L → Calls Try.prog 11 #[.pointer (some ⟨B, 0, none⟩)] W fun e w' => ∃ ao cap, e = .returned (.slice ao L.length cap) ∧ Spans w' ao L ∧ Spans w' a3 L ∧ MapAt w' B g ∧ Below W.heap.size W w') := Lib.hid fun W g hm hg h0 => by
        have := Taken_set B g W hm
        rw [hg] at this
        exact this.mono fun e w' ⟨p, q, he, hs, _, hw⟩ => ⟨p, q, he, hs, h0.below hw, hm.below hw hm.lt, hw⟩
      cases hcan : canTurn f i 1
      · obtain ⟨e1, e2⟩ := turn_no 2 hcan
        clear hcan
        have e1 := Lib.hid e1
        have e2 := Lib.hid e2
        go_wp2_with fail
        refine (Take_any B f i _ m3.out Hi.out).mono ?_
        rintro e w5 ⟨rfl, m5, k5⟩
        rw [e1.out]
        rw [e2.out] at m5
        have b5 := Lib.hid (Kept.out b3.out k5 (fun q _ e => by omega) (by omega))
        have s5 := k5.size
        have t5 : Hid (Spans w5 a3 L) := Lib.hid (t3.out.kept k5 hne.out)
        have m5 := Lib.hid m5
        clear k5
        go_wp2_with fail
        refine (Count_map B f w5 m5.out).mono ?_
        rintro e w6 ⟨rfl, rfl⟩
        rw [← Hcn.out]
        go_wp2_with fail
        refine (hsame.out w6 f m5.out HL.out.symm t5.out).mono ?_
        rintro e w7 ⟨a7, c7, rfl, t7, t7', m7, b7⟩
        have s7 := b7.size
        have b7 := Lib.hid (b5.out.trans (b7.mono (by omega)))
        have t7 := Lib.hid t7
        have t7' := Lib.hid t7'
        clear m7
        go_wp2_with fail
        refine (Same_any a7 a3 c7 c3 L L w7 t7.out t7'.out hfl.out hfl.out).mono ?_
        rintro e w8 ⟨rfl, b8⟩
        rw [decide_eq_true rfl]
        have b8 := Lib.hid (b7.out.trans (b8.mono (by omega)))
        go_wp2
        go_ret
        exact ⟨rfl, b8.out⟩
      · obtain ⟨n, rfl, hn1, hfn⟩ := canTurn_yes hcan
        clear hcan
        obtain ⟨e1, e2⟩ := turn_yes 2 hn1 hfn
        have hcnt := count_take hn1 hfn (v := 2) (by omega)
        rw [← Hcn.out] at hcnt
        obtain ⟨c', rfl⟩ : ∃ c', c = c' + 1 := ⟨countN (upd f n 2), hcnt⟩
        have hc1 : Hid (countN (upd f n 2) = c') := Lib.hid (by omega)
        clear hcnt
        obtain ⟨e3, e4⟩ := turn_yes (f := upd f n 2) (n := n) (a := 2) 1 hn1 (by simp [upd])
        rw [upd_back hfn] at e4
        obtain ⟨e5, e6⟩ := turn_yes (f := upd f n 2) (n := n) (a := 2) 3 hn1 (by simp [upd])
        rw [upd_upd] at e6
        have hc3 : Hid (countN (upd f n 3) = c') := Lib.hid (by
          have := count_take hn1 hfn (v := 3) (by omega)
          rw [← Hcn.out] at this; omega)
        have hw1 : Hid (setS (upd f n 3) 3 = [((n : Int), 1)]) := Lib.hid (set_one hc.out hn1)
        have hcb := Lib.hid (commit_back hc.out hfn)
        have hw0 : Hid (setS f 3 = []) := Lib.hid (setS_none fun j _ => hc.out j)
        have e1 := Lib.hid e1
        have e2 := Lib.hid e2
        have e3 := Lib.hid e3
        have e4 := Lib.hid e4
        have e5 := Lib.hid e5
        have e6 := Lib.hid e6
        have hfn := Lib.hid hfn
        go_wp2_with fail
        refine (Take_any B f _ _ m3.out Hi.out).mono ?_
        rintro e w5 ⟨rfl, m5, k5⟩
        rw [e1.out]
        rw [e2.out] at m5
        have b5 := Lib.hid (Kept.out b3.out k5 (fun q _ e => by omega) (by omega))
        have s5 := k5.size
        have t5 : Hid (Spans w5 a3 L) := Lib.hid (t3.out.kept k5 hne.out)
        have m5 := Lib.hid m5
        clear k5
        go_wp2_with fail
        refine (Count_map B _ w5 m5.out).mono ?_
        rintro e w6 ⟨rfl, rfl⟩
        rw [hc1.out]
        go_wp2_with fail
        refine (Free_any B _ _ w6 m5.out Hi.out).mono ?_
        rintro e w7 ⟨rfl, m7, k7⟩
        rw [e3.out]
        rw [e4.out] at m7
        have b7 := Lib.hid (Kept.out b5.out k7 (fun q _ e => by omega) (by omega))
        have s7 := k7.size
        have t7 : Hid (Spans w7 a3 L) := Lib.hid (t5.out.kept k7 hne.out)
        have m7 := Lib.hid m7
        clear k7
        go_wp2_with fail
        refine (Count_map B _ w7 m7.out).mono ?_
        rintro e w8 ⟨rfl, rfl⟩
        rw [← Hcn.out]
        go_wp2_with fail
        refine (hsame.out w8 f m7.out HL.out.symm t7.out).mono ?_
        rintro e w9 ⟨a9, c9, rfl, t9, t9', m9, b9⟩
        have s9 := b9.size
        have b9 := Lib.hid (b7.out.trans (b9.mono (by omega)))
        have t9 := Lib.hid t9
        have t9' := Lib.hid t9'
        have m9 := Lib.hid m9
        go_wp2_with fail
        refine (Same_any a9 a3 c9 c3 L L w9 t9.out t9'.out hfl.out hfl.out).mono ?_
        rintro e w10 ⟨rfl, b10⟩
        rw [decide_eq_true rfl]
        have s10 := b10.size
        have m10 : Hid (MapAt w10 B f) := Lib.hid (m9.out.below b10 m9.out.lt)
        have t10 : Hid (Spans w10 a3 L) := Lib.hid (t9'.out.below b10)
        have b10 := Lib.hid (b9.out.trans (b10.mono (by omega)))
        go_wp2_with fail
        refine (Take_any B f _ _ m10.out Hi.out).mono ?_
        rintro e w11 ⟨rfl, m11, k11⟩
        rw [e1.out]
        rw [e2.out] at m11
        have b11 := Lib.hid (Kept.out b10.out k11 (fun q _ e => by omega) (by omega))
        have s11 := k11.size
        have t11 : Hid (Spans w11 a3 L) := Lib.hid (t10.out.kept k11 hne.out)
        have m11 := Lib.hid m11
        clear k11
        go_wp2_with fail
        refine (Later_any B _ _ w11 m11.out Hi.out).mono ?_
        rintro e w12 ⟨rfl, m12, k12⟩
        rw [e5.out]
        rw [e6.out] at m12
        have b12 := Lib.hid (Kept.out b11.out k12 (fun q _ e => by omega) (by omega))
        have s12 := k12.size
        have t12 : Hid (Spans w12 a3 L) := Lib.hid (t11.out.kept k12 hne.out)
        have m12 := Lib.hid m12
        clear k12
        go_wp2_with fail
        refine (Count_map B _ w12 m12.out).mono ?_
        rintro e w13 ⟨rfl, rfl⟩
        rw [hc3.out]
        go_wp2_with fail
        refine (Waiting_set B _ w13 m12.out).mono ?_
        rintro e w14 ⟨a14, c14, rfl, t14, _, b14⟩
        rw [hw1.out]
        have s14 := b14.size
        have m14 : Hid (MapAt w14 B (upd f n 3)) := Lib.hid (m12.out.below b14 m12.out.lt)
        have t14 : Hid (Spans w14 a3 L) := Lib.hid (t12.out.below b14)
        have b14 := Lib.hid (b12.out.trans (b14.mono (by omega)))
        go_wp2_with fail
        refine (Commit_any B _ w14 m14.out).mono ?_
        rintro e w15 ⟨rfl, m15, k15⟩
        rw [hcb.out] at m15
        have b15 := Lib.hid (Kept.out b14.out k15 (fun q _ e => by omega) (by omega))
        have s15 := k15.size
        have t15 : Hid (Spans w15 a3 L) := Lib.hid (t14.out.kept k15 hne.out)
        have m15 := Lib.hid m15
        clear k15
        go_wp2_with fail
        refine (Count_map B _ w15 m15.out).mono ?_
        rintro e w16 ⟨rfl, rfl⟩
        rw [← Hcn.out]
        go_wp2_with fail
        refine (hsame.out w16 f m15.out HL.out.symm t15.out).mono ?_
        rintro e w17 ⟨a17, c17, rfl, t17, t17', m17, b17⟩
        have s17 := b17.size
        have b17 := Lib.hid (b15.out.trans (b17.mono (by omega)))
        have t17 := Lib.hid t17
        have t17' := Lib.hid t17'
        have m17 := Lib.hid m17
        go_wp2_with fail
        refine (Same_any a17 a3 c17 c3 L L w17 t17.out t17'.out hfl.out hfl.out).mono ?_
        rintro e w18 ⟨rfl, b18⟩
        rw [decide_eq_true rfl]
        have s18 := b18.size
        have m18 : Hid (MapAt w18 B f) := Lib.hid (m17.out.below b18 m17.out.lt)
        have b18 := Lib.hid (b17.out.trans (b18.mono (by omega)))
        go_wp2_with fail
        refine (Waiting_set B _ w18 m18.out).mono ?_
        rintro e w19 ⟨a19, c19, rfl, t19, _, b19⟩
        rw [hw0.out]
        have b19 := Lib.hid (b18.out.trans (b19.mono (by omega)))
        clear t19
        go_wp2
        go_ret
        exact ⟨rfl, b19.out⟩

theorem own : ownKnob Try.prog.godebug = none := by kernel_rfl
theorem laidOut : laidOutB Try.prog = true := by kernel_rfl

set_option maxRecDepth 100000 in
theorem lifted (os : Os) (started : os.Started) (H : Type) (enc : TypeId × Value → H) :
    ReturnsInHanded {} Try.checked os 6 .any (Rows.slabTurnsSpec.pre6 enc Try.prog Try.f6 Rows.slabTurnsRow.domain false) (Rows.slabTurnsSpec.post enc Try.prog Try.f6 false true false false) := by
  refine returnsInHanded_of_change_sized (C := Try.checked) own started (by kernel_rfl) Try.func6
    (ChangeSpec.witness6 (enc := enc) (C := Try.checked) false ⟨#[], #[.int .i64 0, .slice none 0 0, .int .i64 0], []⟩ 8 (by kernel_rfl) (by kernel_rfl) (by kernel_rfl) (by kernel_rfl)) ?_
  intro W base args ds gs before hval0 hW hcnd hsz0 _
  have hval : ∀ (j : Nat) t v, Try.f6.params[j]? = some t → args[j]? = some v → Value.okWide Try.prog W .any base t v := hval0
  have hsz : (DataW.weightsEach Try.prog (Try.f6.params.toList ++ Rows.slabTurnsSpec.plain.varTypes Try.prog) (ds ++ gs)).all (· ≤ reachBytes) = true := hsz0
  have hW' := hW
  obtain ⟨p, q, hA0, hV, rfl, hfz, hnd⟩ := hW
  have hA : DataW.TrodAll enc Try.prog W 0 (fun _ => true) true Try.f6.params.toList args.toList ds p := hA0
  rw [Try.params6] at hA hval hsz
  obtain ⟨v0, vs0, d0, ds0, p0, q0, hargs, rfl, rfl, h0, r0⟩ := trodAll_cons hA
  obtain ⟨v1, vs1, d1, ds1, p1, q1, rfl, rfl, rfl, h1, r1⟩ := trodAll_cons r0
  obtain ⟨v2, vs2, d2, ds2, p2, q2, rfl, rfl, rfl, h2, r2⟩ := trodAll_cons r1
  obtain ⟨rfl, rfl, rfl⟩ := trodAll_nil r2
  obtain rfl : args = #[v0, v1, v2] := by cases args; simp_all
  obtain ⟨rfl, rfl⟩ := trodVars_none hV
  obtain ⟨a0, rfl, rfl, rfl, wf0⟩ := open_int Try.underlying3 (hval 0 3 v0 rfl rfl) h0
  have k1 := h1
  have lt1 : ∀ x ∈ p1, x.block < W.heap.size := by obtain ⟨m, hm⟩ := k1; exact DataW.trod_lt m _ _ _ hm
  obtain ⟨ao1, a1, cap1, rfl, sp1, fi1, nl1⟩ := arg_acts7 h1 (hval 1 28 v1 rfl rfl) (fun es sp e => sized_slice hsz (j := 1) (t := 28) (e := 31) rfl (by rw [e]; rfl) Try.underlying28)
  obtain ⟨a2, rfl, rfl, rfl, wf2⟩ := open_int Try.underlying3 (hval 2 3 v2 rfl rfl) h2
  clear hA0 hval0 hsz0
  refine (walk a0 ao1 a1 cap1 a2 W (wf_i64 wf0) sp1 fi1 nl1 (wf_i64 wf2)).mono fun e W' ⟨he, bel⟩ => ?_
  subst he
  exact ⟨_, rfl, _, _, _, [], _, [], hW', trodAll_mk1 (shut_bool Try.underlying4 _), (trodAll_cons_mk (shut_int Try.underlying3 wf0) (trodAll_cons_mk (Below.trod laidOut (by kernel_rfl) (of_decide_eq_true (by kernel_rfl)) k1 bel lt1) (trodAll_cons_mk (shut_int Try.underlying3 wf2) trodAll_mk0))), rfl, bel.frame _, fun h => by cases h⟩

theorem proved : Rows.SlabTurnsSaid :=
  OpenClaim.holds_of_wide 6 Try.f6 rfl rfl rfl rfl rfl rfl rfl ⟨rfl, rfl, rfl, rfl, rfl⟩ rfl rfl rfl rfl rfl (by kernel_rfl) Try.func6 (by kernel_rfl)
    (of_decide_eq_true (by kernel_rfl)) (by unfold Func.isWrapper; first | (rw [if_pos (by decide +kernel)]; kernel_rfl) | (rw [if_neg (by decide +kernel)]; exact ⟨rfl, rfl⟩))
    (fun os started H enc _ => lifted os started H enc)
end Go.Proofs.Ythnncohkdgaipaa.lawSlabTurns
