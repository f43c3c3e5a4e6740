/- PileLives, for every input: the law returns true and each argument reads behind the call as before. No condition. -/
import Derived.Test.YtkhjhkiieieogaaGPileB
namespace Go.Proofs.Ytkhjhkiieieogaa.lawPileLives
open Go.ChangeShapes Go.WideShapes Go.ChangeAt Go.RowKit Go.Deep
set_option linter.unusedVariables false
set_option maxRecDepth 20000

theorem byte_at (W : World) (k : Nat) (hk : k < 256) (T : TypeId) : Bytes (W.alloc (.cells #[.int .u8 (k : Int)] T)) (some ⟨W.heap.size, 0, none⟩) [UInt8.ofNat k] := by
  have h := Reads.lit W #[.int .u8 (k : Int)] T
  have e : byteV (UInt8.ofNat k) = .int .u8 (k : Int) := by
    unfold byteV; congr 1; simp; omega
  unfold Bytes bytesV
  simp only [List.map_cons, List.map_nil, e]
  exact h
theorem byte_at2 (W : World) (k : Nat) (hk : k < 256) (T : TypeId) : Bytes (W.alloc (.cells #[.int .u8 (k : Int), .int .u8 1] T)) (some ⟨W.heap.size, 0, none⟩) [UInt8.ofNat k, 1] := by
  have h := Reads.lit W #[.int .u8 (k : Int), .int .u8 1] T
  have e : byteV (UInt8.ofNat k) = .int .u8 (k : Int) := by
    unfold byteV; congr 1; simp; omega
  have e1 : byteV 1 = .int .u8 1 := rfl
  unfold Bytes bytesV
  simp only [List.map_cons, List.map_nil, e, e1]
  exact h

set_option maxRecDepth 100000 in
set_option maxHeartbeats 4000000 in
theorem walk (z0 z1 : Int) (w : World) (hz0 : I64 z0) (hz1 : I64 z1) :
    Calls Try.prog 5 #[.int .i64 z0, .int .i64 z1] w fun e w' => e = .returned (.bool true) ∧ Below w.heap.size w w' := by
  obtain ⟨i0, hi, hy0, hy1, hy2⟩ := info_parts infoPtr4
  unfold I64 at hz0 hz1
  have hv1 : ∀ i s : Nat, p3V ⟨(i : Int), 1, s⟩ = .agg #[.int .i64 (i : Int), .int .u64 1, .int .u32 (s : Int)] := fun i s => rfl
  have hv2 : ∀ i s : Nat, p3V ⟨(i : Int), 2, s⟩ = .agg #[.int .i64 (i : Int), .int .u64 2, .int .u32 (s : Int)] := fun i s => rfl
  go_enter Try.func5, Try.ntmps5
  go_wp2_with fail
  refine (pileAlive_any _).mono ?_
  rintro e w1 ⟨rfl, hb1⟩
  have q1 := Lib.hid hb1
  clear hb1
  by_cases g1 : z0 < 0
  · go_wp2
    go_ret
    exact ⟨rfl, q1.out⟩
  by_cases g2 : 50 < z0
  · go_wp2
    go_ret
    exact ⟨rfl, q1.out⟩
  by_cases g3 : z1 < 0
  · go_wp2
    go_ret
    exact ⟨rfl, q1.out⟩
  by_cases g4 : 50 < z1
  · go_wp2
    go_ret
    exact ⟨rfl, q1.out⟩
  obtain ⟨a, rfl⟩ := Int.eq_ofNat_of_zero_le (show 0 ≤ z0 from by omega)
  obtain ⟨b, rfl⟩ := Int.eq_ofNat_of_zero_le (show 0 ≤ z1 from by omega)
  have ha : a ≤ 50 := by omega
  have hb : b ≤ 50 := by omega
  go_wp2_with fail
  refine (made_any 64 (by unfold I64; omega) w1).mono ?_
  rintro e w2 ⟨g, d, B, F, rfl, hP⟩
  have hP := hP.later q1.out
  rw [show DevM.newLen 64 = 64 from rfl] at hP
  have hL := Lib.hid (PL.first hP)
  clear hP q1
  go_wp2
  clear g1 g2 g3 g4 hz0 hz1
  go_loopw [6, 7] (fun v i wr => ∃ (k : Nat) (F : Nat → Prop) (m : PileM) (qs : List P3) (A : List Nat), k ≤ a ∧ i = .int .i64 k ∧ Hid (PL w wr g d B F m v qs) ∧ Hid (Lv m [] A k 1 0) ∧ Hid (QA qs A 1) ∧ Hid (A.length = k))
    (fun _ i _ => a - (intOf i).toNat)
  case atStart => exact ⟨0, F, _, [], [], by omega, rfl, hL, Lib.hid Lv.first, Lib.hid (QA.nil 1), Lib.hid rfl⟩
  case round =>
    clear hL
    obtain ⟨k, F1, m, qs, A, hk, rfl, hL, hI, hQ, hA⟩ := hrel
    by_cases hlt : k < a
    · have hqk : Hid (qs.length = k) := Lib.hid (by rw [hQ.out.len, hA.out])
      have hw8 : IntKind.u8.wrap (k : Int) = k := by rw [IntKind.wrap_u8]; omega
      obtain ⟨m', i, s, hput, hs, hi64, hI'⟩ := hI.out.put (by rw [hA.out]; omega) (bs := [UInt8.ofNat k]) (by simp)
      have hput := Lib.hid hput
      have hI' := Lib.hid hI'
      have hQ' := Lib.hid (hQ.out.push (i := i) hs)
      have hA' : Hid ((A ++ [i]).length = k + 1) := Lib.hid (by rw [List.length_append, hA.out]; rfl)
      have hwsz : w.heap.size ≤ wr.heap.size := hL.out.p.q.size
      go_wp2_with fail
      refine (oPut (hL.out.alloc _).p.at_ (some ⟨wr.heap.size, 0, none⟩) [UInt8.ofNat k] 1 (byte_at wr k (by omega) _) (fun a ha hf => by cases ha; have := hL.out.p.at_.lt _ hf; simp at this) (by have := hI.out.live.pend; omega)).mono ?_
      rw [hput.out]
      dsimp only
      rw [hv1]
      rintro e w5 ⟨rfl, T⟩
      obtain ⟨F5, hL5, k5, g5⟩ := (hL.out.alloc _).turn T
      have hL5 := Lib.hid hL5
      clear T k5 g5
      have hL6 := Lib.hid (hL5.out.alloc (.cells #[.int .i64 (i : Int), .int .u64 1, .int .u32 (s : Int)] 32))
      have hwsz5 : w.heap.size ≤ w5.heap.size := hL5.out.p.q.size
      go_wp2_with (at_builtin
                   refine wpList_pushN rfl _ _ 36 rfl w.heap.size 32 i0 _ 3 24 Try.underlying36 hi hy0 hy1 hy2 rfl (by decide) u6 _ _ (w5.alloc (.cells #[.int .i64 (i : Int), .int .u64 1, .int .u32 (s : Int)] 32)) rfl hL6.out.own 1 #[.int .i64 (i : Int), .int .u64 1, .int .u32 (s : Int)] (by rw [World.size_alloc]; rfl) rfl (p3L_one ⟨(i : Int), 1, s⟩) (by rw [hqk.out]; omega) (by rw [hqk.out]; omega) (by simp; omega) ?_
                   intro v' w7 ho7 hg7 hv7
                   have hL7 := Lib.hid (hL6.out.push ⟨(i : Int), 1, s⟩ ho7 hg7)
                   clear ho7 hg7 hv7)
      go_roundw
      case rel => exact ⟨k + 1, F5, m', qs ++ [⟨(i : Int), 1, s⟩], A ++ [i], by omega, by go_num, hL7, hI', hQ', hA'⟩
      case measure => simp [intOf] <;> omega
    · obtain rfl : k = a := by omega
      clear hlt hk
      have hqk : Hid (qs.length = k) := Lib.hid (by rw [hQ.out.len, hA.out])
      obtain ⟨vo, vc, rfl, _⟩ := owns_form hL.out.own
      rw [hqk.out]
      go_wp2_with fail
      refine (oCommitP hL.out.p.at_ (by rw [hI.out.stamp]; decide)).mono ?_
      rintro e w3 ⟨rfl, T⟩
      obtain ⟨F3, hL3, k3, g3⟩ := hL.out.turn T
      have hL3 := Lib.hid hL3
      have hI3 := Lib.hid hI.out.commit1
      clear T k3 g3 hL hI
      go_wp2
      go_loopw [56] (fun i wr => ∃ (j : Nat) (F : Nat → Prop) (m : PileM), j ≤ k ∧ i = .int .i64 j ∧ Hid (PL w wr g d B F m (.slice vo qs.length vc) qs) ∧ Hid (Lv m (A.take j) A k 2 1))
        (fun i _ => k - (intOf i).toNat)
      case atStart => exact ⟨0, F3, _, by omega, rfl, hL3, hI3⟩
      case round =>
        clear hL3 hI3
        obtain ⟨j, F1, m1, hj, rfl, hL, hI⟩ := hrel
        by_cases hlt : j < k
        · have hjq : j < qs.length := by rw [hqk.out]; exact hlt
          have hjA : j < A.length := by rw [hA.out]; exact hlt
          obtain ⟨x, c', hvv, hxl, c0, c1, c2⟩ := hL.out.cells hjq
          simp only [Value.slice.injEq] at hvv
          obtain ⟨rfl, _, rfl⟩ := hvv
          obtain ⟨q1, q2, q3⟩ := hQ.out.at_ j _ _ (List.getElem?_eq_getElem hjq) (List.getElem?_eq_getElem hjA)
          obtain ⟨⟨qa, qb, qs'⟩, hq⟩ : ∃ q, Hid (qs[j] = q) := ⟨_, Lib.hid rfl⟩
          obtain ⟨ai, hai⟩ : ∃ ai, Hid (A[j] = ai) := ⟨_, Lib.hid rfl⟩
          have hain : ai ∈ A := by rw [← hai.out]; exact List.getElem_mem hjA
          have hgA : A[j]? = some ai := by rw [List.getElem?_eq_getElem hjA, hai.out]
          rw [hq.out, hai.out] at q1
          rw [hq.out] at c0 c1 c2 q2 q3
          dsimp only at c0 c1 c2 q1 q2 q3
          subst q1 q2
          have hnb := not_before hI.out.nd hgA
          have h64 := (newS_free (n := 64) (hI.out.one ai hain)).2
          obtain ⟨m2, d1, hI2⟩ := hI.out.drop_yes hain hnb (q := ⟨(ai : Int), 1, qs'⟩) rfl (show (1 : Nat) ≠ 0 from by decide) (by show ¬ 1 < 1; omega)
          rw [← take_more hgA] at hI2
          obtain ⟨m3, d2, hI3⟩ := hI2.drop_no (a := ai) (by omega) (by rw [take_more hgA]; simp) (q := ⟨(ai : Int), 1, qs'⟩) rfl (show (1 : Nat) ≠ 0 from by decide)
          have hqf : Hid (P3.Fit ⟨(ai : Int), 1, qs'⟩) := Lib.hid ⟨by unfold I64; dsimp only; omega, by show (1 : Nat) < 18446744073709551616; decide, q3⟩
          have d1 := Lib.hid d1
          have d2 := Lib.hid d2
          have hI3 := Lib.hid hI3
          clear hI2 hnb hgA hq hai q3 hjA hjq hain
          have hL4 := Lib.hid (hL.out.alloc (.cells (p3L ⟨(ai : Int), 1, qs'⟩).toArray 32))
          have l4 := Lib.hid ((Side.nil wr F1 w.heap.size).new hL.out.p.at_.lt hL.out.p.q.size 32 (p3L ⟨(ai : Int), 1, qs'⟩))
          go_wp2_with fail
          refine (oDrop hL4.out.p.at_ ⟨(ai : Int), 1, qs'⟩ hqf.out).mono ?_
          rw [d1.out]
          dsimp only
          rintro e w5 ⟨rfl, T⟩
          obtain ⟨F5, hL5, k5, g5⟩ := hL4.out.turn T
          have hL5 := Lib.hid hL5
          have l5 := Lib.hid (l4.out.turn k5 g5)
          clear T k5 g5 c0 c1 c2
          obtain ⟨p0, p1, p2⟩ := PtrAt.cells (p := ⟨(ai : Int), 1, qs'⟩) l5.out.one
          have hpl := l5.out.one.lt
          dsimp only at p0 p1 p2
          go_wp2_with fail
          refine (oDrop hL5.out.p.at_ ⟨(ai : Int), 1, qs'⟩ hqf.out).mono ?_
          rw [d2.out]
          dsimp only
          rintro e w6 ⟨rfl, T⟩
          obtain ⟨F6, hL6, k6, g6⟩ := hL5.out.turn T
          have hL6 := Lib.hid hL6
          clear T k6 g6 p0 p1 p2 hpl
          go_wp2
          go_roundw
          case rel => exact ⟨j + 1, F6, m3, by omega, by go_num, hL6, hI3⟩
          case measure => simp [intOf] <;> omega
        · obtain rfl : j = k := by omega
          clear hlt hj
          have hI2 : Hid (Lv m1 A A j 2 1) := Lib.hid (by have := hI.out; rw [List.take_of_length_le (by rw [hA.out]; exact Nat.le_refl _)] at this; exact this)
          have hd : decide ((j : Int) < 60) = true := decide_eq_true (by omega)
          go_wp2
          go_loopw [12] (fun i wr => ∃ (k : Nat) (F : Nat → Prop) (m : PileM), k ≤ b ∧ i = .int .i64 k ∧ Hid (PL w wr g d B F m (.slice vo qs.length vc) qs) ∧ Hid (Lv m A A (j + k) 2 1))
            (fun i _ => b - (intOf i).toNat)
          case atStart => exact ⟨0, F1, m1, by omega, rfl, hL, hI2⟩
          case round =>
            clear hL hI hI2
            obtain ⟨k, F4, m4, hk, rfl, hL, hI⟩ := hrel
            by_cases hlt : k < b
            · have hw8 : IntKind.u8.wrap (k : Int) = k := by rw [IntKind.wrap_u8]; omega
              obtain ⟨m5, m6, i, s, hput, hs, hi64, hiA, hdrop, hI6⟩ := hI.out.put3 (by rw [hA.out]; omega) (bs := [UInt8.ofNat k, 1]) (by simp)
              have hput := Lib.hid hput
              have hdrop := Lib.hid hdrop
              have hI6 : Hid (Lv m6 A A (j + (k + 1)) 2 1) := Lib.hid (by rw [← Nat.add_assoc]; exact hI6)
              have hwsz : w.heap.size ≤ wr.heap.size := hL.out.p.q.size
              go_wp2_with fail
              refine (oPut (hL.out.alloc _).p.at_ (some ⟨wr.heap.size, 0, none⟩) [UInt8.ofNat k, 1] 2 (byte_at2 wr k (by omega) _) (fun a ha hf => by cases ha; have := hL.out.p.at_.lt _ hf; simp at this) (by have := hI.out.live.pend; omega)).mono ?_
              rw [hput.out]
              dsimp only
              rw [hv2]
              rintro e w5 ⟨rfl, T⟩
              obtain ⟨F5, hL5, k5, g5⟩ := (hL.out.alloc _).turn T
              have hL5 := Lib.hid hL5
              clear T k5 g5
              have hL6 := Lib.hid (hL5.out.alloc (.cells (p3L ⟨(i : Int), 2, s⟩).toArray 32))
              have l6 := Lib.hid ((Side.nil w5 F5 w.heap.size).new hL5.out.p.at_.lt hL5.out.p.q.size 32 (p3L ⟨(i : Int), 2, s⟩))
              go_wp2
              go_loopw [91] (fun i' wr => ∃ (n : Nat), n ≤ j ∧ i' = .int .i64 n ∧ Hid (PL w wr g d B F5 m5 (.slice vo qs.length vc) qs) ∧ Hid (Side wr F5 w.heap.size [(w5.heap.size, 32, p3L ⟨(i : Int), 2, s⟩)]))
                (fun i' _ => j - (intOf i').toNat)
              case atStart => exact ⟨0, by omega, rfl, hL6, l6⟩
              case round =>
                clear hL6 l6 hL5
                obtain ⟨n, hn, rfl, hL6, l6⟩ := hrel
                by_cases hlt2 : n < j
                · have hjq : n < qs.length := by rw [hqk.out]; exact hlt2
                  have hjA : n < A.length := by rw [hA.out]; exact hlt2
                  obtain ⟨x, c', hvv, hxl, c0, c1, c2⟩ := hL6.out.cells hjq
                  simp only [Value.slice.injEq] at hvv
                  obtain ⟨rfl, _, rfl⟩ := hvv
                  obtain ⟨q1, q2, q3⟩ := hQ.out.at_ n _ _ (List.getElem?_eq_getElem hjq) (List.getElem?_eq_getElem hjA)
                  obtain ⟨⟨qa, qb, qs'⟩, hq⟩ : ∃ q, Hid (qs[n] = q) := ⟨_, Lib.hid rfl⟩
                  have hne : A[n] ≠ i := fun e => hiA (e ▸ List.getElem_mem hjA)
                  obtain ⟨ai, hai⟩ : ∃ ai, Hid (A[n] = ai) := ⟨_, Lib.hid rfl⟩
                  rw [hai.out] at hne
                  rw [hq.out, hai.out] at q1
                  rw [hq.out] at c0 c1 c2 q2 q3
                  dsimp only at c0 c1 c2 q1 q2 q3
                  subst q1 q2
                  have hqe : ((ai : Int) == (i : Int)) = false := by simp; omega
                  obtain ⟨p0, p1, p2⟩ := PtrAt.cells (p := ⟨(i : Int), 2, s⟩) l6.out.one
                  have hpl := l6.out.one.lt
                  dsimp only at p0 p1 p2
                  have hL7 := Lib.hid (hL6.out.alloc (.cells (p3L ⟨(ai : Int), 1, qs'⟩).toArray 32))
                  have l7 := Lib.hid (l6.out.alloc (.cells (p3L ⟨(ai : Int), 1, qs'⟩).toArray 32))
                  clear hne hq hai hjq hjA
                  go_wp2
                  go_roundw
                  case rel => exact ⟨n + 1, by omega, by go_num, hL7, l7⟩
                  case measure => simp [intOf] <;> omega
                · obtain rfl : n = j := by omega
                  clear hlt2 hn
                  obtain ⟨p0, p1, p2⟩ := PtrAt.cells (p := ⟨(i : Int), 2, s⟩) l6.out.one
                  have hpl := l6.out.one.lt
                  dsimp only at p0 p1 p2
                  have hqf : Hid (P3.Fit ⟨(i : Int), 2, s⟩) := Lib.hid ⟨by unfold I64; dsimp only; omega, by show (2 : Nat) < 18446744073709551616; decide, hs⟩
                  go_wp2_with fail
                  refine (oDrop hL6.out.p.at_ ⟨(i : Int), 2, s⟩ hqf.out).mono ?_
                  rw [hdrop.out]
                  dsimp only
                  rintro e w7 ⟨rfl, T⟩
                  obtain ⟨F7, hL7, k7, g7⟩ := hL6.out.turn T
                  have hL7 := Lib.hid hL7
                  clear T k7 g7 p0 p1 p2 hpl
                  obtain ⟨c, hc⟩ : ∃ c, c = countN m6.map := ⟨_, rfl⟩
                  have hcz : ((c : Int) != 60 - (n : Int)) = false := by
                    have := hI6.out.cnt
                    rw [← hc, hA.out] at this
                    simp; omega
                  have hc := Lib.hid hc
                  go_wp2_with fail
                  refine (oMap hL7.out.p.at_).mono ?_
                  rintro e w8 ⟨rfl, rfl⟩
                  go_wp2_with fail
                  refine (oCount hL7.out.p.at_).mono ?_
                  rw [← hc.out]
                  rintro e w8 ⟨rfl, rfl⟩
                  go_wp2
                  go_roundw
                  case rel => exact ⟨k + 1, F7, m6, by omega, by go_num, hL7, hI6⟩
                  case measure => simp [intOf] <;> omega
            · obtain rfl : k = b := by omega
              clear hlt hk
              obtain ⟨e1, e2, e3⟩ := hI.out.commit2
              have e1 := Lib.hid e1
              have e2 := Lib.hid e2
              have e3 := Lib.hid e3
              go_wp2_with fail
              refine (oCommitP hL.out.p.at_ (by rw [hI.out.stamp]; decide)).mono ?_
              rintro e w5 ⟨rfl, T⟩
              obtain ⟨F5, hL5, k5, g5⟩ := hL.out.turn T
              have hL5 := Lib.hid hL5
              clear T k5 g5
              go_wp2_with fail
              refine (oMap hL5.out.p.at_).mono ?_
              rintro e w6 ⟨rfl, rfl⟩
              go_wp2_with fail
              refine (oCount hL5.out.p.at_).mono ?_
              rw [e1.out]
              rintro e w6 ⟨rfl, rfl⟩
              go_wp2_with fail
              refine (oBase hL5.out.p.at_).mono ?_
              rw [e2.out]
              rintro e w6 ⟨rfl, rfl⟩
              go_wp2_with fail
              refine (oStamp hL5.out.p.at_).mono ?_
              rw [e3.out]
              rintro e w6 ⟨rfl, rfl⟩
              go_wp2
              go_ret
              exact ⟨by simp, hL5.out.p.q⟩

theorem own : ownKnob Try.prog.godebug = none := by kernel_rfl

set_option maxRecDepth 100000 in
theorem lifted (os : Os) (started : os.Started) (H : Type) (enc : TypeId × Value → H) :
    ReturnsInHanded {} Try.checked os 5 .any (Rows.pileLivesSpec.pre6 enc Try.prog Try.f5 Rows.pileLivesRow.domain false) (Rows.pileLivesSpec.post enc Try.prog Try.f5 false true false false) := by
  refine returnsInHanded_of_change_sized (C := Try.checked) own started (by kernel_rfl) Try.func5
    (ChangeSpec.witness6 (enc := enc) (C := Try.checked) false ⟨#[], #[.int .i64 0, .int .i64 0], []⟩ 8 (by kernel_rfl) (by kernel_rfl) (by kernel_rfl) (by kernel_rfl)) ?_
  intro W base args ds gs before hval0 hW hcnd hsz0 _
  have hval : ∀ (j : Nat) t v, Try.f5.params[j]? = some t → args[j]? = some v → Value.okWide Try.prog W .any base t v := hval0
  have hsz : (DataW.weightsEach Try.prog (Try.f5.params.toList ++ Rows.pileLivesSpec.plain.varTypes Try.prog) (ds ++ gs)).all (· ≤ reachBytes) = true := hsz0
  have hW' := hW
  obtain ⟨p, q, hA0, hV, rfl, hfz, hnd⟩ := hW
  have hA : DataW.TrodAll enc Try.prog W 0 (fun _ => true) true Try.f5.params.toList args.toList ds p := hA0
  rw [Try.params5] at hA hval hsz
  obtain ⟨v0, vs0, d0, ds0, p0, q0, hargs, rfl, rfl, h0, r0⟩ := trodAll_cons hA
  obtain ⟨v1, vs1, d1, ds1, p1, q1, rfl, rfl, rfl, h1, r1⟩ := trodAll_cons r0
  obtain ⟨rfl, rfl, rfl⟩ := trodAll_nil r1
  obtain rfl : args = #[v0, v1] := by cases args; simp_all
  obtain ⟨rfl, rfl⟩ := trodVars_none hV
  obtain ⟨a0, rfl, rfl, rfl, wf0⟩ := open_int Try.underlying3 (hval 0 3 v0 rfl rfl) h0
  obtain ⟨a1, rfl, rfl, rfl, wf1⟩ := open_int Try.underlying3 (hval 1 3 v1 rfl rfl) h1
  clear hA0 hval0 hsz0
  refine (walk a0 a1 W (wf_i64 wf0) (wf_i64 wf1)).mono fun e W' ⟨he, bel⟩ => ?_
  subst he
  exact ⟨_, rfl, _, _, _, [], _, [], hW', trodAll_mk1 (shut_bool Try.underlying4 _), (trodAll_cons_mk (shut_int Try.underlying3 wf0) (trodAll_cons_mk (shut_int Try.underlying3 wf1) trodAll_mk0)), rfl, bel.frame _, fun h => by cases h⟩

theorem proved : Rows.PileLivesSaid :=
  OpenClaim.holds_of_wide 5 Try.f5 rfl rfl rfl rfl rfl rfl rfl ⟨rfl, rfl, rfl, rfl, rfl⟩ rfl rfl rfl rfl rfl (by kernel_rfl) Try.func5 (by kernel_rfl)
    (of_decide_eq_true (by kernel_rfl)) (by unfold Func.isWrapper; first | (rw [if_pos (by decide +kernel)]; kernel_rfl) | (rw [if_neg (by decide +kernel)]; exact ⟨rfl, rfl⟩))
    (fun os started H enc _ => lifted os started H enc)
end Go.Proofs.Ytkhjhkiieieogaa.lawPileLives
