/- SpanFirsts, for every input: the law returns true and each argument reads behind the call as before. No condition. -/
import Derived.Test.YtnfcjdfjbabldaaSpanR
namespace Go.Proofs.Ytnfcjdfjbabldaa.lawSpanFirsts
open Go.ChangeShapes Go.WideShapes Go.ChangeAt Go.RowKit Go.Deep
set_option linter.unusedVariables false

theorem firstL_none {xs : List (Int × Int)} {m : Int} (h : firstL xs m = none) : m < 1 ∨ ∀ p ∈ xs, p.2 < m := by
  unfold firstL at h
  by_cases h0 : 1 ≤ m
  · right
    rw [if_pos h0] at h
    simp only [Option.map_eq_none_iff, List.find?_eq_none, decide_eq_true_eq] at h
    intro p hp
    have := h p hp
    omega
  · left; omega

/-- the span that First finds, with what is ahead of it -/
theorem firstL_some {xs : List (Int × Int)} {m : Int} {r : Int × Int} (h : firstL xs m = some r) : r.2 = m ∧ 1 ≤ m ∧ ∃ ys n zs, xs = ys ++ (r.1, n) :: zs ∧ m ≤ n ∧ ∀ p ∈ ys, p.2 < m := by
  unfold firstL at h
  by_cases h0 : 1 ≤ m
  · rw [if_pos h0] at h
    simp only [Option.map_eq_some_iff] at h
    obtain ⟨p, hp, rfl⟩ := h
    obtain ⟨hp1, ys, zs, rfl, hys⟩ := List.find?_eq_some_iff_append.1 hp
    refine ⟨rfl, h0, ys, p.2, zs, rfl, by simpa using hp1, fun q hq => ?_⟩
    have := hys q hq
    simp at this
    exact this
  · rw [if_neg h0] at h; cases h

theorem right_append {low : Int} {ys zs : List (Int × Int)} (h : rightFrom low (ys ++ zs) = true) : rightFrom low ys = true ∧ rightFrom (endOf low ys) zs = true := by
  induction ys generalizing low with
  | nil => exact ⟨rfl, h⟩
  | cons q r ih =>
    obtain ⟨s, n⟩ := q
    simp only [List.cons_append, rightFrom, Bool.and_eq_true] at h
    obtain ⟨h1, h2⟩ := ih h.2
    refine ⟨?_, h2⟩
    simp only [rightFrom, Bool.and_eq_true]
    exact ⟨h.1, h1⟩

/-- all numbers of what is ahead lie below its end -/
theorem hasL_endOf {low : Int} {ys : List (Int × Int)} (h : rightFrom low ys = true) {j : Int} (hj : hasL ys j = true) : j + 1 < endOf low ys := by
  induction ys generalizing low with
  | nil => simp [hasL] at hj
  | cons q r ih =>
    obtain ⟨s, n⟩ := q
    obtain ⟨a1, a2, a3, a4⟩ := right_head h
    rw [hasL_cons] at hj
    simp only [Bool.or_eq_true, decide_eq_true_eq] at hj
    have mono : ∀ (r : List (Int × Int)) (l : Int), rightFrom l r = true → l ≤ endOf l r := by
      intro r
      induction r with
      | nil => intro l _; exact Int.le_refl _
      | cons q r ih =>
        obtain ⟨s, n⟩ := q
        intro l h
        obtain ⟨b1, b2, b3, b4⟩ := right_head h
        have := ih _ b4
        simp only [endOf]; omega
    rcases hj with hj | hj
    · have := mono r _ a4
      simp only [endOf]; omega
    · exact ih a4 hj

/-- below the span that was found there is just what went ahead of it -/
theorem first_below {xs L : List (Int × Int)} {s n : Int} {ys zs : List (Int × Int)} (hr : rightFrom 0 xs = true) (e : xs = ys ++ (s, n) :: zs) (hs : 1 ≤ s) (hL : IsSet L fun j => maskS xs j && maskS [(0, s)] j) : L = ys := by
  rw [e] at hr
  obtain ⟨h1, h2⟩ := right_append hr
  obtain ⟨c1, c2, c3, c4⟩ := right_head h2
  refine right_of_masks hL.1 h1 fun j hj => ?_
  rw [hL.2 j hj, e]
  show (hasL (ys ++ (s, n) :: zs) (j : Int) && hasL [(0, s)] (j : Int)) = hasL ys (j : Int)
  rw [hasL_append, hasL_cons, hasL_one]
  have h3 : hasL zs j = true → s + n < j := by
    intro h
    have := right_low c4 (j := (j : Int))
    by_cases hlt : (j : Int) < s + n + 1
    · rw [this hlt] at h; cases h
    · omega
  have h4 : hasL ys j = true → (j : Int) + 1 < s := by
    intro h
    have := hasL_endOf h1 h
    omega
  cases hy : hasL ys j
  · cases hz : hasL zs j
    · simp; omega
    · have := h3 hz
      simp; omega
  · have := h4 hy
    simp; omega

theorem one_spans (w : World) (q : Int) : Spans (w.alloc (.cells #[.int .i64 0, .int .i64 q] 34)) (some ⟨w.heap.size, 0, none⟩) [(0, q)] := by
  intro i hi
  refine ⟨w.heap.size, 0, rfl, ?_, ?_⟩
  all_goals
    match i, hi with
    | 0, _ => simp

theorem one_right {q : Int} (h : 1 ≤ q) (h2 : q ≤ 4096) : rightFrom 0 [(0, q)] = true := by
  simp [rightFrom, withinB]; omega

theorem first_says (r : Option (Int × Int)) : ∃ p q b, ∀ (w0 : World) e' w', FirstSays r w0 e' w' → e' = .returned (.tuple #[.agg #[.int .i64 p, .int .i64 q], .bool b]) ∧ Below w0.heap.size w0 w' := by
  cases r with
  | none => exact ⟨0, 0, false, fun w0 e' w' h => h⟩
  | some r => exact ⟨r.1, r.2, true, fun w0 e' w' h => h⟩

set_option maxHeartbeats 4000000 in
set_option maxRecDepth 20000 in
theorem walk (ao : Option Addr) (xs : List (Int × Int)) (cap : Nat) (n : Int) (w : World) (hx : Spans w ao xs) (hf : Fits xs) (hn : ao = none → xs = [] ∧ cap = 0) (h1 : I64 n) :
    Calls Try.prog 10 #[.slice ao xs.length cap, .int .i64 n] w fun e w' => e = .returned (.bool true) ∧ Below w.heap.size w w' := by
  obtain ⟨n1, n2⟩ := h1
  have hl := hf.2
  have Hx := Lib.hid hx
  have Hf := Lib.hid hf
  clear hx hf hn
  go_enter Try.func10, Try.ntmps10
  go_wp2_with fail
  refine (alive_any w).mono ?_
  rintro e w1 ⟨rfl, hbn⟩
  have b0 := Lib.hid hbn
  clear hbn
  go_wp2_with fail
  refine (Right_any ao cap xs w1 (Hx.out.below b0.out) Hf.out).mono ?_
  rintro e w2 ⟨rfl, hbn⟩
  have b0 := Lib.hid (b0.out.trans (hbn.mono b0.out.size))
  have b1 := Lib.hid hbn
  clear hbn
  cases hR : rightFrom 0 xs
  · go_wp2
    go_ret
    exact ⟨rfl, b0.out⟩
  have Rx := Lib.hid hR
  clear hR
  cases hF : firstL xs n with
  | none =>
    have Hnone := Lib.hid (firstL_none hF)
    go_wp2_with fail
    refine (First_any ao cap xs n w2 (Hx.out.below b0.out) Hf.out n1 n2).mono ?_
    rintro e w3 he
    rw [hF] at he
    obtain ⟨rfl, hb3⟩ := he
    clear hF
    have hb3 := Lib.hid (b0.out.trans (hb3.mono b0.out.size))
    have hsz3 := hb3.out.size
    go_wp2
    go_loopw [27] (fun i wr => ∃ k : Nat, k ≤ xs.length ∧ i = .int .i64 k ∧ Below w.heap.size w wr ∧ Two wr w3.heap.size 34 0 0)
      (fun i _ => xs.length - (intOf i).toNat)
    case atStart => exact ⟨0, by omega, rfl, hb3.out.alloc hsz3 _, Two.new _ _ _ _⟩
    case round =>
      obtain ⟨k, hk, rfl, hb, ht⟩ := hrel
      have q0 := ht.c0
      have q1 := ht.c1
      have hsz := hb.size
      have ht := Lib.hid ht
      have hb := Lib.hid hb
      by_cases hlt : k < xs.length
      · obtain ⟨b, off, s, m, rfl, hd, c1, c2, hbb, hs1, hs2, hn1, hn2⟩ := (Hx.out.below hb.out).get Hf.out hlt
        have hsm : n < 1 ∨ m < n := Hnone.out.imp_right fun h => h (s, m) (by
          have : (s, m) ∈ xs.drop k := by rw [hd.out]; exact List.mem_cons_self
          exact List.mem_of_mem_drop this)
        rcases hsm with h0 | h0
        · go_wp2
          go_roundw
          case rel => exact ⟨k + 1, by omega, by go_num, hb.out.alloc hsz _, ht.out.alloc _⟩
          case measure => simp [intOf] <;> omega
        · by_cases h00 : 1 ≤ n
          all_goals
            go_wp2
            go_roundw
            case rel => exact ⟨k + 1, by omega, by go_num, hb.out.alloc hsz _, ht.out.alloc _⟩
            case measure => simp [intOf] <;> omega
      · go_wp2
        go_ret
        exact ⟨rfl, hb.out⟩
  | some r =>
    obtain ⟨s, m⟩ := r
    obtain ⟨hm, hn0, ys, len, zs, hxs, hlen, hys⟩ := firstL_some hF
    simp only at hm hxs
    subst hm
    have hgs : 0 ≤ s ∧ 1 ≤ len ∧ len ≤ 4096 - s := right_good Rx.out (s, len) (by rw [hxs]; simp)
    obtain ⟨g1, g2, g3⟩ := hgs
    have hhas : ∀ j : Int, s ≤ j → j < s + m → hasL xs j = true := fun j h1 h2 => by
      rw [hxs, hasL_append, hasL_cons]
      have : decide (s ≤ j ∧ j < s + len) = true := by simp; omega
      rw [this]; simp
    have Hhas := Lib.hid hhas
    have Hxs := Lib.hid hxs
    have Hys := Lib.hid hys
    clear hhas hxs hys
    go_wp2_with fail
    refine (First_any ao cap xs m w2 (Hx.out.below b0.out) Hf.out n1 n2).mono ?_
    rintro e w3 he
    rw [hF] at he
    obtain ⟨rfl, hb3⟩ := he
    clear hF
    have hb3 := Lib.hid (b0.out.trans (hb3.mono b0.out.size))
    have hsz3 := hb3.out.size
    go_wp2
    go_loopw [9] (fun i wr => ∃ k : Nat, (k : Int) ≤ m ∧ i = .int .i64 k ∧ Below w.heap.size w wr ∧ Two wr w3.heap.size 34 s m)
      (fun i _ => m.toNat - (intOf i).toNat)
    case atStart => exact ⟨0, by omega, rfl, hb3.out.alloc hsz3 _, Two.new _ _ _ _⟩
    case round =>
      obtain ⟨k, hk, rfl, hb, ht⟩ := hrel
      have q0 := ht.c0
      have q1 := ht.c1
      have hsz := hb.size
      have hltt := ht.lt
      have ht := Lib.hid ht
      have hb := Lib.hid hb
      by_cases hlt : (k : Int) < m
      · go_wp2_with fail
        refine (Has_any ao cap xs _ wr (Hx.out.below hb.out) Hf.out Rx.out).mono ?_
        rintro e wq ⟨rfl, hbq⟩
        rw [Hhas.out _ (by omega) (by omega)]
        have htq := Lib.hid (ht.out.below hbq)
        have hbq := Lib.hid (hb.out.trans (hbq.mono hsz))
        go_wp2
        go_roundw
        case rel => exact ⟨k + 1, by omega, by go_num, hbq.out, htq.out⟩
        case measure => simp [intOf] <;> omega
      · obtain ⟨q, hq⟩ : ∃ q : Int, q = (if s = 0 then 1 else s) := ⟨_, rfl⟩
        have hq1 : 1 ≤ q := by rw [hq]; split <;> omega
        have hq2 : q ≤ 4096 := by rw [hq]; split <;> omega
        have Hq := Lib.hid hq
        clear hq
        have hbA := Lib.hid ((Below.refl wr.heap.size wr).alloc (Nat.le_refl _) (.cells #[.int .i64 0, .int .i64 q] 34))
        have hcall := Both_set ao (some ⟨wr.heap.size, 0, none⟩) cap 1 xs [(0, q)] (wr.alloc (.cells #[.int .i64 0, .int .i64 q] 34)) ((Hx.out.below hb.out).below hbA.out) Rx.out (one_spans wr q) (one_right hq1 hq2)
        have Hcall := Lib.hid hcall
        clear hcall
        rcases (show s = 0 ∨ s = 1 ∨ 1 < s from by omega) with rfl | rfl | hs1
        · have hq0 : q = 1 := by rw [Hq.out]; rfl
          subst hq0
          go_wp2_with fail
          refine Hcall.out.mono ?_
          rintro e w5 ⟨co, cc, L, rfl, hs5, hL, hb5⟩
          have htq := Lib.hid ((ht.out.alloc (.cells #[.int .i64 0, .int .i64 1] 34)).below hb5)
          have hb5 := Lib.hid (hb.out.trans (hbA.out.trans (hb5.mono (by simp)) |>.mono hsz))
          have hs5 := Lib.hid hs5
          have hL5 : Hid (Fits L) := Lib.hid hL.out.fits
          obtain ⟨p1, p2, pb, hp⟩ := first_says (firstL L m)
          have hp := Lib.hid hp
          go_wp2_with fail
          refine (First_any co cc L m w5 hs5.out hL5.out n1 n2).mono ?_
          intro e w6 he
          obtain ⟨rfl, hb6⟩ := hp.out _ _ _ he
          clear he
          have ht6 := htq.out.below hb6
          have r0 := ht6.c0
          have r1 := ht6.c1
          have hlt6 := ht6.lt
          clear ht6
          have hb6 := Lib.hid (hb5.out.trans (hb6.mono hb5.out.size))
          have hsz6 := hb6.out.size
          go_wp2
          go_ret
          exact ⟨rfl, hb6.out.alloc hsz6 _⟩
        · have hq0 : q = 1 := by rw [Hq.out]; rfl
          subst hq0
          have hmax : Hid (∀ L, IsSet L (fun j => maskS xs j && maskS [(0, 1)] j) → firstL L m = none) := Lib.hid (fun L hL => by
            rw [first_below Rx.out Hxs.out (by omega) hL]
            unfold firstL
            rw [if_pos hn0]
            simp only [Option.map_eq_none_iff, List.find?_eq_none, decide_eq_true_eq]
            intro p hp h
            have := Hys.out p hp
            omega)
          go_wp2_with fail
          refine Hcall.out.mono ?_
          rintro e w5 ⟨co, cc, L, rfl, hs5, hL, hb5⟩
          have htq := Lib.hid ((ht.out.alloc (.cells #[.int .i64 0, .int .i64 1] 34)).below hb5)
          have hb5 := Lib.hid (hb.out.trans (hbA.out.trans (hb5.mono (by simp)) |>.mono hsz))
          have hs5 := Lib.hid hs5
          have hL5 : Hid (Fits L) := Lib.hid hL.out.fits
          have hLn := Lib.hid (hmax.out L hL.out)
          go_wp2_with fail
          refine (First_any co cc L m w5 hs5.out hL5.out n1 n2).mono ?_
          intro e w6 he
          rw [hLn.out] at he
          obtain ⟨rfl, hb6⟩ := he
          have ht6 := htq.out.below hb6
          have r0 := ht6.c0
          have r1 := ht6.c1
          have hlt6 := ht6.lt
          clear ht6
          have hb6 := Lib.hid (hb5.out.trans (hb6.mono hb5.out.size))
          have hsz6 := hb6.out.size
          go_wp2
          go_ret
          exact ⟨rfl, hb6.out.alloc hsz6 _⟩
        · have hq0 : q = s := by rw [Hq.out, if_neg (by omega)]
          subst hq0
          have hmax : Hid (∀ L, IsSet L (fun j => maskS xs j && maskS [(0, q)] j) → firstL L m = none) := Lib.hid (fun L hL => by
            rw [first_below Rx.out Hxs.out (by omega) hL]
            unfold firstL
            rw [if_pos hn0]
            simp only [Option.map_eq_none_iff, List.find?_eq_none, decide_eq_true_eq]
            intro p hp h
            have := Hys.out p hp
            omega)
          go_wp2_with fail
          refine Hcall.out.mono ?_
          rintro e w5 ⟨co, cc, L, rfl, hs5, hL, hb5⟩
          have htq := Lib.hid ((ht.out.alloc (.cells #[.int .i64 0, .int .i64 q] 34)).below hb5)
          have hb5 := Lib.hid (hb.out.trans (hbA.out.trans (hb5.mono (by simp)) |>.mono hsz))
          have hs5 := Lib.hid hs5
          have hL5 : Hid (Fits L) := Lib.hid hL.out.fits
          have hLn := Lib.hid (hmax.out L hL.out)
          go_wp2_with fail
          refine (First_any co cc L m w5 hs5.out hL5.out n1 n2).mono ?_
          intro e w6 he
          rw [hLn.out] at he
          obtain ⟨rfl, hb6⟩ := he
          have ht6 := htq.out.below hb6
          have r0 := ht6.c0
          have r1 := ht6.c1
          have hlt6 := ht6.lt
          clear ht6
          have hb6 := Lib.hid (hb5.out.trans (hb6.mono hb5.out.size))
          have hsz6 := hb6.out.size
          have hs0 : (q == 0) = false := by simp; omega
          go_wp2
          go_ret
          exact ⟨rfl, hb6.out.alloc hsz6 _⟩
theorem own : ownKnob Try.prog.godebug = none := by kernel_rfl
theorem laidOut : laidOutB Try.prog = true := by kernel_rfl

set_option maxRecDepth 100000 in
theorem lifted (os : Os) (started : os.Started) (H : Type) (enc : TypeId × Value → H) :
    ReturnsInHanded {} Try.checked os 10 .any (Rows.spanFirstsSpec.pre6 enc Try.prog Try.f10 Rows.spanFirstsRow.domain false) (Rows.spanFirstsSpec.post enc Try.prog Try.f10 false true false false) := by
  refine returnsInHanded_of_change_sized (C := Try.checked) own started (by kernel_rfl) Try.func10
    (ChangeSpec.witness6 (enc := enc) (C := Try.checked) false ⟨#[], #[.slice none 0 0, .int .i64 0], []⟩ 8 (by kernel_rfl) (by kernel_rfl) (by kernel_rfl) (by kernel_rfl)) ?_
  intro W base args ds gs before hval0 hW hcnd hsz0 _
  have hval : ∀ (j : Nat) t v, Try.f10.params[j]? = some t → args[j]? = some v → Value.okWide Try.prog W .any base t v := hval0
  have hsz : (DataW.weightsEach Try.prog (Try.f10.params.toList ++ Rows.spanFirstsSpec.plain.varTypes Try.prog) (ds ++ gs)).all (· ≤ reachBytes) = true := hsz0
  have hW' := hW
  obtain ⟨p, q, hA0, hV, rfl, hfz, hnd⟩ := hW
  have hA : DataW.TrodAll enc Try.prog W 0 (fun _ => true) true Try.f10.params.toList args.toList ds p := hA0
  rw [Try.params10] at hA hval hsz
  obtain ⟨v0, vs0, d0, ds0, p0, q0, hargs, rfl, rfl, h0, r0⟩ := trodAll_cons hA
  obtain ⟨v1, vs1, d1, ds1, p1, q1, rfl, rfl, rfl, h1, r1⟩ := trodAll_cons r0
  obtain ⟨rfl, rfl, rfl⟩ := trodAll_nil r1
  obtain rfl : args = #[v0, v1] := by cases args; simp_all
  obtain ⟨rfl, rfl⟩ := trodVars_none hV
  have k0 := h0
  have lt0 : ∀ x ∈ p0, x.block < W.heap.size := by obtain ⟨m, hm⟩ := k0; exact DataW.trod_lt m _ _ _ hm
  obtain ⟨ao0, a0, cap0, rfl, sp0, fi0, nl0⟩ := arg_spans h0 (hval 0 27 v0 rfl rfl) (fun es sp e => sized_slice hsz (j := 0) (t := 27) (e := 34) rfl (by rw [e]; rfl) Try.underlying27)
  obtain ⟨a1, rfl, rfl, rfl, wf1⟩ := open_int Try.underlying3 (hval 1 3 v1 rfl rfl) h1
  clear hA0 hval0 hsz0
  refine (walk ao0 a0 cap0 a1 W sp0 fi0 nl0 (wf_i64 wf1)).mono fun e W' ⟨he, bel⟩ => ?_
  subst he
  exact ⟨_, rfl, _, _, _, [], _, [], hW', trodAll_mk1 (shut_bool Try.underlying4 _), (trodAll_cons_mk (Below.trod laidOut (by kernel_rfl) (of_decide_eq_true (by kernel_rfl)) k0 bel lt0) (trodAll_cons_mk (shut_int Try.underlying3 wf1) trodAll_mk0)), rfl, bel.frame _, fun h => by cases h⟩

theorem proved : Rows.SpanFirstsSaid :=
  OpenClaim.holds_of_wide 10 Try.f10 rfl rfl rfl rfl rfl rfl rfl ⟨rfl, rfl, rfl, rfl, rfl⟩ rfl rfl rfl rfl rfl (by kernel_rfl) Try.func10 (by kernel_rfl)
    (of_decide_eq_true (by kernel_rfl)) (by unfold Func.isWrapper; first | (rw [if_pos (by decide +kernel)]; kernel_rfl) | (rw [if_neg (by decide +kernel)]; exact ⟨rfl, rfl⟩))
    (fun os started H enc _ => lifted os started H enc)
end Go.Proofs.Ytnfcjdfjbabldaa.lawSpanFirsts
