/- PileReads, for every input: the law returns true and each argument reads behind the call as before. No condition. -/
import Derived.Test.YtkhjhkiieieogaaGPileB
namespace Go.Proofs.Ytkhjhkiieieogaa.lawPileReads
open Go.ChangeShapes Go.WideShapes Go.ChangeAt Go.RowKit Go.Deep
set_option linter.unusedVariables false
set_option maxRecDepth 20000

set_option maxRecDepth 100000 in
set_option maxHeartbeats 4000000 in
theorem walk (ao : Option Addr) (ts : List (List UInt8)) (cap : Nat) (z : Int) (R : Sec) (w : World) (hx : Texts w ao ts) (hf : (ts.length ≤ cap ∧ cap * 24 ≤ 140737488351232) ∧ ∀ x ∈ ts, x.length ≤ 140737488351232) (hn : ao = none → cap = 0) (hz : I64 z) :
    Calls Try.prog 4 #[.slice ao ts.length cap, .int .i64 z, .agg (secL R).toArray] w fun e w' => e = .returned (.bool true) ∧ Below w.heap.size w w' := by
  have hx := Lib.hid hx
  have hls := Lib.hid hf.2
  have hcap := hf.1
  have hz := Lib.hid hz
  clear hn hf
  obtain ⟨j0, hj, hy0, hy1, hy2⟩ := info_parts infoU8
  obtain ⟨i0, hi, hz0, hz1, hz2⟩ := info_parts infoPtr4
  have hzs := zeroSec
  have he := eqSec
  obtain ⟨n, hnn⟩ : ∃ n, Hid (ts.length = n) := ⟨_, Lib.hid rfl⟩
  rw [hnn.out] at hcap ⊢
  go_enter Try.func4, Try.ntmps4
  go_wp2_with fail
  refine (pileAlive_any _).mono ?_
  rintro e w1 ⟨rfl, hb1⟩
  have R1 := Lib.hid (blk_out (Blk.new w 23 (secL R)) hb1)
  have q1 := Lib.hid (below_boxed hb1)
  clear hb1
  by_cases hbig : n > 50
  · go_wp2
    go_ret
    exact ⟨rfl, q1.out⟩
  have hbig : n ≤ 50 := by omega
  go_wp2_with fail
  refine (made_any 64 (by unfold I64; omega) w1).mono ?_
  rintro e w2 ⟨g, d, B, F, rfl, hP⟩
  have l2 := Lib.hid (show Side w2 F w.heap.size [(w.heap.size, 23, secL R)] from fun x hx => by
    cases hx with
    | head => exact ⟨R1.out.below hP.q R1.out.lt, fun hf => by have h1 := hP.low _ hf; have h2 := R1.out.lt; dsimp only at h1; omega, Nat.le_refl _⟩
    | tail _ h => cases h)
  have hP := hP.later q1.out
  rw [show DevM.newLen 64 = 64 from rfl] at hP
  have hL := Lib.hid (PL.first hP)
  have l2 := Lib.hid (l2.out.alloc (.cells #[] 32))
  clear hP R1 q1
  go_wp2
  go_loopw [8, 27] (fun v i wr => ∃ (k : Nat) (F : Nat → Prop) (m : PileM) (qs : List P3), k ≤ n ∧ i = .int .i64 k ∧ Hid (PL w wr g d B F m v qs) ∧ Hid (Puts m (ts.take k) qs) ∧ Hid (Side wr F w.heap.size [(w.heap.size, 23, secL R)]))
    (fun _ i _ => n - (intOf i).toNat)
  case atStart => exact ⟨0, F, _, [], by omega, rfl, hL, Lib.hid Puts.first, l2⟩
  case round =>
    clear hL l2
    obtain ⟨k, F1, m, qs, hk, rfl, hL, hI, l3⟩ := hrel
    by_cases hlt : k < n
    · obtain ⟨tb, toff, t, bo, tc, rfl, htc, htb, hdr, htk, htl, htm, htn, hty, htin⟩ := (hx.out.below hL.out.p.q).at (k := k) (by rw [hnn.out]; exact hlt)
      have htL := hls.out _ htin.out
      have hlen3 : (ts.take k).length = k := by rw [List.length_take, hnn.out]; omega
      have hqk : Hid (qs.length = k) := Lib.hid (by rw [hI.out.len, hlen3])
      clear hlen3
      obtain ⟨m', ⟨qa, qb, qs'⟩, hput, hI', hfit⟩ := hI.out.step (by rw [List.length_take]; omega) t
      rw [← htk.out] at hI'
      have hput := Lib.hid hput
      have hI' := Lib.hid hI'
      have hbyl := Lib.hid (bytesV_length t)
      have hbyo := Lib.hid (bytesV_one t)
      have hwsz : w.heap.size ≤ wr.heap.size := hL.out.p.q.size
      go_wp2_with (at_builtin; refine wpList_copy rfl (.tmp 33) (.tmp 34) 37 rfl 5 j0 (.int .u8 0) 1 Try.underlying37 hj hy0 hy1 hy2 rfl wr rfl bo t.length tc (bytesV t) rfl htn.out hbyl.out hty.out hbyo.out (by omega) (by omega) ?_; intro co cc w4 ho4 hcc hcc2 hcn hb4; have ho4 := Lib.hid ho4; have hb4 := Lib.hid hb4)
      have hL4 := Lib.hid (hL.out.below hb4.out)
      have hC4 : Hid (Bytes w4 co t) := Lib.hid (show Bytes w4 co t from ho4.out.reads)
      have hcF : Hid (∀ a, co = some a → ¬ F1 a.block) := Lib.hid (fun a ha hf => by
        subst ha
        have h1 := (ho4.out.lt a.block rfl).1
        have h2 := hL.out.p.at_.lt _ hf
        omega)
      have l4 := Lib.hid (l3.out.below hb4.out)
      refine (oPut hL4.out.p.at_ co t cc hC4.out hcF.out (by have := hI.out.live.pend; rw [List.length_take] at this; omega)).mono ?_
      rw [hput.out]
      dsimp only
      rintro e w5 ⟨rfl, T⟩
      obtain ⟨F5, hL5, k5, g5⟩ := hL4.out.turn T
      have hL5 := Lib.hid hL5
      have l5 := Lib.hid (l4.out.turn k5 g5)
      clear T k5 g5
      unfold p3V
      dsimp only
      have hL6 := Lib.hid (hL5.out.alloc (.cells #[.int .i64 qa, .int .u64 (qb : Int), .int .u32 (qs' : Int)] 32))
      have l6 := Lib.hid (l5.out.alloc (.cells #[.int .i64 qa, .int .u64 (qb : Int), .int .u32 (qs' : Int)] 32))
      have hwsz5 : w.heap.size ≤ w5.heap.size := hL5.out.p.q.size
      by_cases hs : t.length ≤ 128
      · rw [if_pos hs] at hput ⊢
        have hd : decide ((t.length : Int) ≤ 128) = true := decide_eq_true (by omega)
        go_wp2_with (at_builtin
                     refine wpList_pushN rfl _ _ 36 rfl w.heap.size 32 i0 _ 3 24 Try.underlying36 hi hz0 hz1 hz2 rfl (by decide) u8 _ _ (w5.alloc (.cells #[.int .i64 qa, .int .u64 (qb : Int), .int .u32 (qs' : Int)] 32)) rfl hL6.out.own 1 #[.int .i64 qa, .int .u64 (qb : Int), .int .u32 (qs' : Int)] (by rw [World.size_alloc]; rfl) rfl (p3L_one ⟨qa, qb, qs'⟩) (by rw [hqk.out]; omega) (by rw [hqk.out]; omega) (by simp; omega) ?_
                     intro v' w7 ho7 hg7 hv7
                     have hL7 := Lib.hid (hL6.out.push ⟨qa, qb, qs'⟩ ho7 hg7)
                     have l7 := Lib.hid (l6.out.grow hL6.out hg7)
                     clear ho7 hg7 hv7)
        go_roundw
        case rel => exact ⟨k + 1, F5, m', qs ++ [⟨qa, qb, qs'⟩], by omega, by go_num, hL7, hI', l7⟩
        case measure => simp [intOf] <;> omega
      · rw [if_neg hs] at hput ⊢
        have hd : decide ((t.length : Int) ≤ 128) = false := decide_eq_false (by omega)
        go_wp2_with (at_builtin
                     refine wpList_pushN rfl _ _ 36 rfl w.heap.size 32 i0 _ 3 24 Try.underlying36 hi hz0 hz1 hz2 rfl (by decide) u8 _ _ (w5.alloc (.cells #[.int .i64 qa, .int .u64 (qb : Int), .int .u32 (qs' : Int)] 32)) rfl hL6.out.own 1 #[.int .i64 qa, .int .u64 (qb : Int), .int .u32 (qs' : Int)] (by rw [World.size_alloc]; rfl) rfl (p3L_one ⟨qa, qb, qs'⟩) (by rw [hqk.out]; omega) (by rw [hqk.out]; omega) (by simp; omega) ?_
                     intro v' w7 ho7 hg7 hv7
                     have hL7 := Lib.hid (hL6.out.push ⟨qa, qb, qs'⟩ ho7 hg7)
                     have l7 := Lib.hid (l6.out.grow hL6.out hg7)
                     clear ho7 hg7 hv7)
        go_roundw
        case rel => exact ⟨k + 1, F5, m', qs ++ [⟨qa, qb, qs'⟩], by omega, by go_num, hL7, hI', l7⟩
        case measure => simp [intOf] <;> omega
    · obtain rfl : k = n := by omega
      clear hlt hk
      have hI2 : Hid (Puts m ts qs) := Lib.hid (by have := hI.out; rw [List.take_of_length_le (by rw [hnn.out]; exact Nat.le_refl _)] at this; exact this)
      have hpe : Hid (m.dev.pending.length ≤ 1000000000) := Lib.hid (by have := hI2.out.live.pend; rw [hnn.out] at this; omega)
      have hqk : Hid (qs.length = k) := Lib.hid (by rw [hI2.out.len, hnn.out])
      obtain ⟨vo, vc, rfl, _⟩ := owns_form hL.out.own
      rw [hqk.out]
      go_wp2
      refine inO_region [(3, fun w' => w'.rangeAt (w.heap.size) (0) (secL R))] (by kernel_rfl) (Owed.cons (rangeB l3.out.one) (Owed.nil _ _)) ?_
      refine inO_take 0 ⟨_, _, _, _, _, _⟩ (.pointer (some ⟨g, 0, none⟩)) rfl (by kernel_rfl) (by kernel_rfl) (by kernel_rfl) (fun _ _ _ h => h) rfl (fun ww => exec_move (by rfl) (by rfl) ww) ?_
      simp only [Act.put, List.setIfInBounds_toArray, List.set_cons_zero, List.set_cons_succ]
      refine inO_take 2 ⟨_, _, _, _, _, _⟩ (.int .i64 z) rfl (by kernel_rfl) (by kernel_rfl) (by kernel_rfl) (fun _ _ _ h => h) rfl (fun ww => exec_move (by rfl) (by rfl) ww) ?_
      simp only [Act.put, List.setIfInBounds_toArray, List.set_cons_zero, List.set_cons_succ]
      refine inO_load 3 ⟨_, _, _, _, _, _⟩ (.agg (secL R).toArray) (fun w' => w'.rangeAt (w.heap.size) (0) (secL R)) rfl (by kernel_rfl) (by kernel_rfl) (by kernel_rfl) (fun _ _ _ h => h) rfl (.head _) (fun ww hw => exec_load_mid _ _ (by rfl) _ _ (by rfl) _ _ hw Try.underlying23 rfl (infoSecL _)) ?_
      simp only [Act.put, List.setIfInBounds_toArray, List.set_cons_zero, List.set_cons_succ]
      refine inO_step 1 ⟨_, _, _, _, _, _⟩ rfl (by kernel_rfl) rfl (fun K hK => ?_)
      refine wp_call Try.func12 (by kernel_rfl) rfl _ _ rfl _ rfl _ (oDev hL.out.drew.p.at_) fun e w6 T => ?_
      obtain ⟨rfl, rfl⟩ := T
      refine ⟨_, rfl, ?_⟩
      refine hK _ _ (Keeps.cons (fun hh => hh) (Keeps.nil _ _ _)) ?_
      clear hK K
      simp only [Act.put, List.setIfInBounds_toArray, List.set_cons_zero, List.set_cons_succ]
      refine inO_step 4 ⟨_, _, _, _, _, _⟩ rfl (by kernel_rfl) rfl (fun K hK => ?_)
      refine wp_call Try.func13 (by kernel_rfl) rfl _ _ rfl _ rfl _ (oRotP hL.out.drew.p.at_ z hz.out R hpe.out) fun e w7 T => ?_
      obtain ⟨rfl, T⟩ := T
      obtain ⟨F7, hL7, k7, g7⟩ := hL.out.drew.turn T
      have hL7 := Lib.hid hL7
      have l7 := Lib.hid (l3.out.drew.turn k7 g7)
      clear T k7 g7
      refine ⟨_, rfl, ?_⟩
      refine hK _ _ (Keeps.late (by kernel_rfl) (Keeps.nil _ _ _)) ?_
      clear hK K
      simp only [Act.put, List.setIfInBounds_toArray, List.set_cons_zero, List.set_cons_succ]
      refine inO_done (by kernel_rfl) ?_
      clear hL l3 hI
      go_wp2
      go_loopw [57] (fun i wr => ∃ (j : Nat) (F : Nat → Prop) (m' : PileM), j ≤ k ∧ i = .int .i64 j ∧ Hid (PL w wr g d B F m' (.slice vo qs.length vc) qs) ∧ Hid (PLive m' 64 50) ∧ Hid (m'.dev.now = (m.dev.rot z R).1.now) ∧ Hid (Side wr F w.heap.size [(w.heap.size, 23, secL R)]))
        (fun i _ => k - (intOf i).toNat)
      case atStart => exact ⟨0, F7, _, by omega, rfl, hL7, Lib.hid ((hI2.out.live.rot z R).1.more (by rw [hnn.out]; exact hbig)), Lib.hid rfl, l7⟩
      case round =>
        clear hL7 l7
        obtain ⟨j, F1, m1, hj, rfl, hL, hv, hN, l3⟩ := hrel
        by_cases hlt : j < k
        · have hjq : j < qs.length := by rw [hqk.out]; exact hlt
          obtain ⟨x, c', hvv, hxl, c0, c1, c2⟩ := hL.out.cells hjq
          simp only [Value.slice.injEq] at hvv
          obtain ⟨rfl, _, rfl⟩ := hvv
          obtain ⟨⟨qa, qb, qs'⟩, hq⟩ : ∃ q, Hid (qs[j] = q) := ⟨_, Lib.hid rfl⟩
          rw [hq.out] at c0 c1 c2
          dsimp only at c0 c1 c2
          have hqf : Hid (P3.Fit ⟨qa, qb, qs'⟩) := Lib.hid (by rw [← hq.out]; exact hI2.out.fit _ (List.getElem_mem hjq))
          have hq2 : Hid (qs[j]? = some ⟨qa, qb, qs'⟩) := Lib.hid (by rw [List.getElem?_eq_getElem hjq, hq.out])
          obtain ⟨m2, S, er, hg⟩ : ∃ m2 S er, Hid (m1.get ⟨qa, qb, qs'⟩ = (m2, S, er)) := ⟨_, _, _, Lib.hid rfl⟩
          have hkp := hv.out.get_keep ⟨qa, qb, qs'⟩
          rw [hg.out] at hkp
          have hv2 := Lib.hid hkp.1
          have hN2 := Lib.hid (hkp.2.1.trans hN.out)
          clear hkp hjq hq
          have hL4 := Lib.hid (hL.out.alloc (.cells (p3L ⟨qa, qb, qs'⟩).toArray 32))
          have l4 := Lib.hid (l3.out.new hL.out.p.at_.lt hL.out.p.q.size 32 (p3L ⟨qa, qb, qs'⟩))
          go_wp2_with fail
          refine (oGet hL4.out.p.at_ ⟨qa, qb, qs'⟩ hqf.out).mono ?_
          rw [hg.out]
          dsimp only
          rintro e w5 ⟨rfl, T⟩
          obtain ⟨F5, hL5, k5, g5⟩ := hL4.out.turn T
          have hL5 := Lib.hid hL5
          have l5 := Lib.hid (l4.out.turn k5 g5)
          clear T k5 g5 c0 c1 c2
          go_wp2_with (first
            | ((with_reducible refine guardList ?_)
               refine wantList_store (by rfl) 23 _ _ rfl w5.heap.size 0 (by rfl) (secL S) (by rfl) _ (secL sec0) (secL S) (Blk.new w5 _ _) (by simp only [secL_length]; decide) (secL_one _) (infoSecL _) wholeS ?_
               intro w6 hR6 k6 z6
               have hL6 := Lib.hid (hL5.out.fresh k6)
               have l6 := Lib.hid (l5.out.fresh hL5.out.p.at_.lt hL5.out.p.q.size k6 hR6)
               obtain ⟨tb, toff, t, bo, tc, rfl, htc, htb, hdr, htk, htl, htm, htn, hty, htin⟩ := (hx.out.below hL6.out.p.q).at (k := j) (by rw [hnn.out]; exact hlt)
               have e1 : Hid (ts[j]? = some t) := Lib.hid (by rw [← Nat.add_zero j, ← List.getElem?_drop, hdr.out]; rfl)
               have htL := hls.out _ htin.out
               clear hR6 k6 z6 htk hdr))
          obtain ⟨W, hW⟩ : ∃ W, Hid (W = blockS t) := ⟨_, Lib.hid rfl⟩
          refine (Block_any bo t tc w6 hty.out (by omega)).mono ?_
          rw [← hW.out]
          rintro e w7 ⟨rfl, hb⟩
          have hL7 := Lib.hid (hL6.out.below hb)
          have l7 := Lib.hid (l6.out.below hb)
          have htc7 := keepCell hb htc
          have hlt7 : tb < w7.heap.size := Nat.lt_of_lt_of_le htb hb.size
          clear hb htc htb
          by_cases hs : 128 < t.length
          · have hd : decide (128 < (t.length : Int)) = true := decide_eq_true (by omega)
            go_wp2_with (first
              | ((with_reducible refine guardList ?_)
                 refine wantList_store (by rfl) 23 _ _ rfl w7.heap.size 0 (by rfl) (secL W) (by rfl) _ (secL sec0) (secL W) (Blk.new w7 _ _) (by simp only [secL_length]; decide) (secL_one _) (infoSecL _) wholeS ?_
                 intro w8 hR8 k8 z8
                 have hL8 := Lib.hid (hL7.out.fresh k8)
                 have l8 := Lib.hid (l7.out.fresh hL7.out.p.at_.lt hL7.out.p.q.size k8 hR8)
                 have htc8 : w8.cell? ⟨tb, toff + j, none⟩ = some (.slice bo t.length tc) := (k8.cell (by simp; omega) (by simp; omega)).trans (cell_alloc htc7 _)
                 have htb8 : tb < w8.heap.size := by have := k8.size; simp at this; omega
                 obtain ⟨p0, p1, p2⟩ := PtrAt.cells (p := ⟨qa, qb, qs'⟩) l8.out.rest.rest.one
                 have hpl := l8.out.rest.rest.one.lt
                 clear hR8 k8 z8 p1 p2))
            go_roundw
            case rel => exact ⟨j + 1, F5, m2, by omega, by go_num, hL8, hv2, hN2, Lib.hid l8.out.rest.rest.rest⟩
            case measure => simp [intOf] <;> omega
          · have hd : decide (128 < (t.length : Int)) = false := decide_eq_false (by omega)
            obtain ⟨S', er', h1, h2⟩ := hI2.out.reads hv.out hN.out e1.out hq2.out (by omega)
            rw [hg.out] at h1
            obtain ⟨rfl, rfl⟩ : S = S' ∧ er = er' := by simpa using h1
            clear h1 hg
            dsimp only at h2
            rw [← hW.out] at h2
            rcases h2 with ⟨ha, rfl, hS⟩ | ⟨ha, rfl, hS⟩ | ⟨ha, rfl, hS⟩
            · have hne : (qa != z) = true := by simpa using ha
              have hSW : decide (S = W) = true := decide_eq_true hS
              clear ha hS
              go_wp2_with (first
                | ((with_reducible refine guardList ?_)
                   refine wantList_store (by rfl) 23 _ _ rfl w7.heap.size 0 (by rfl) (secL W) (by rfl) _ (secL sec0) (secL W) (Blk.new w7 _ _) (by simp only [secL_length]; decide) (secL_one _) (infoSecL _) wholeS ?_
                   intro w8 hR8 k8 z8
                   have hL8 := Lib.hid (hL7.out.fresh k8)
                   have l8 := Lib.hid (l7.out.fresh hL7.out.p.at_.lt hL7.out.p.q.size k8 hR8)
                   have htc8 : w8.cell? ⟨tb, toff + j, none⟩ = some (.slice bo t.length tc) := (k8.cell (by simp; omega) (by simp; omega)).trans (cell_alloc htc7 _)
                   have htb8 : tb < w8.heap.size := by have := k8.size; simp at this; omega
                   obtain ⟨p0, p1, p2⟩ := PtrAt.cells (p := ⟨qa, qb, qs'⟩) l8.out.rest.rest.one
                   have hpl := l8.out.rest.rest.one.lt
                   clear hR8 k8 z8 p1 p2)
                | ((with_reducible refine at2Dst (some 87) (by rfl) ?_); refine wantList_load (by rfl) 23 _ rfl w5.heap.size 0 (by rfl) (secL S) _ (rangeB l8.out.rest.one) Try.underlying23 rfl (infoSecL _) ?_)
                | ((with_reducible refine at2Dst (some 88) (by rfl) ?_); refine wantList_load (by rfl) 23 _ rfl w7.heap.size 0 (by rfl) (secL W) _ (rangeB l8.out.one) Try.underlying23 rfl (infoSecL _) ?_)
                | ((with_reducible refine at2Dst (some 109) (by rfl) ?_); refine wantList_load (by rfl) 23 _ rfl w5.heap.size 0 (by rfl) (secL S) _ (rangeB l8.out.rest.one) Try.underlying23 rfl (infoSecL _) ?_)
                | ((with_reducible refine at2Dst (some 110) (by rfl) ?_); refine wantList_load (by rfl) 23 _ rfl w7.heap.size 0 (by rfl) (secL W) _ (rangeB l8.out.one) Try.underlying23 rfl (infoSecL _) ?_))
              go_roundw
              case rel => exact ⟨j + 1, F5, m2, by omega, by go_num, hL8, hv2, hN2, Lib.hid l8.out.rest.rest.rest⟩
              case measure => simp [intOf] <;> omega
            · have hne : (qa != z) = false := by simpa using ha
              have hSR : decide (S = R) = true := decide_eq_true hS
              clear ha hS
              by_cases hb : S = W
              · have hSW : decide (S = W) = true := decide_eq_true hb
                clear hb
                go_wp2_with (first
                  | ((with_reducible refine guardList ?_)
                     refine wantList_store (by rfl) 23 _ _ rfl w7.heap.size 0 (by rfl) (secL W) (by rfl) _ (secL sec0) (secL W) (Blk.new w7 _ _) (by simp only [secL_length]; decide) (secL_one _) (infoSecL _) wholeS ?_
                     intro w8 hR8 k8 z8
                     have hL8 := Lib.hid (hL7.out.fresh k8)
                     have l8 := Lib.hid (l7.out.fresh hL7.out.p.at_.lt hL7.out.p.q.size k8 hR8)
                     have htc8 : w8.cell? ⟨tb, toff + j, none⟩ = some (.slice bo t.length tc) := (k8.cell (by simp; omega) (by simp; omega)).trans (cell_alloc htc7 _)
                     have htb8 : tb < w8.heap.size := by have := k8.size; simp at this; omega
                     obtain ⟨p0, p1, p2⟩ := PtrAt.cells (p := ⟨qa, qb, qs'⟩) l8.out.rest.rest.one
                     have hpl := l8.out.rest.rest.one.lt
                     clear hR8 k8 z8 p1 p2)
                  | ((with_reducible refine at2Dst (some 109) (by rfl) ?_); refine wantList_load (by rfl) 23 _ rfl w5.heap.size 0 (by rfl) (secL S) _ (rangeB l8.out.rest.one) Try.underlying23 rfl (infoSecL _) ?_)
                  | ((with_reducible refine at2Dst (some 110) (by rfl) ?_); refine wantList_load (by rfl) 23 _ rfl w7.heap.size 0 (by rfl) (secL W) _ (rangeB l8.out.one) Try.underlying23 rfl (infoSecL _) ?_))
                go_roundw
                case rel => exact ⟨j + 1, F5, m2, by omega, by go_num, hL8, hv2, hN2, Lib.hid l8.out.rest.rest.rest⟩
                case measure => simp [intOf] <;> omega
              · have hSW : decide (S = W) = false := decide_eq_false hb
                clear hb
                go_wp2_with (first
                  | ((with_reducible refine guardList ?_)
                     refine wantList_store (by rfl) 23 _ _ rfl w7.heap.size 0 (by rfl) (secL W) (by rfl) _ (secL sec0) (secL W) (Blk.new w7 _ _) (by simp only [secL_length]; decide) (secL_one _) (infoSecL _) wholeS ?_
                     intro w8 hR8 k8 z8
                     have hL8 := Lib.hid (hL7.out.fresh k8)
                     have l8 := Lib.hid (l7.out.fresh hL7.out.p.at_.lt hL7.out.p.q.size k8 hR8)
                     have htc8 : w8.cell? ⟨tb, toff + j, none⟩ = some (.slice bo t.length tc) := (k8.cell (by simp; omega) (by simp; omega)).trans (cell_alloc htc7 _)
                     have htb8 : tb < w8.heap.size := by have := k8.size; simp at this; omega
                     obtain ⟨p0, p1, p2⟩ := PtrAt.cells (p := ⟨qa, qb, qs'⟩) l8.out.rest.rest.one
                     have hpl := l8.out.rest.rest.one.lt
                     clear hR8 k8 z8 p1 p2)
                  | ((with_reducible refine at2Dst (some 109) (by rfl) ?_); refine wantList_load (by rfl) 23 _ rfl w5.heap.size 0 (by rfl) (secL S) _ (rangeB l8.out.rest.one) Try.underlying23 rfl (infoSecL _) ?_)
                  | ((with_reducible refine at2Dst (some 110) (by rfl) ?_); refine wantList_load (by rfl) 23 _ rfl w7.heap.size 0 (by rfl) (secL W) _ (rangeB l8.out.one) Try.underlying23 rfl (infoSecL _) ?_)
                  | ((with_reducible refine at2Dst (some 114) (by rfl) ?_); refine wantList_load (by rfl) 23 _ rfl w5.heap.size 0 (by rfl) (secL S) _ (rangeB l8.out.rest.one) Try.underlying23 rfl (infoSecL _) ?_)
                  | ((with_reducible refine at2Dst (some 115) (by rfl) ?_); refine wantList_load (by rfl) 23 _ rfl w.heap.size 0 (by rfl) (secL R) _ (rangeB l8.out.rest.rest.rest.one) Try.underlying23 rfl (infoSecL _) ?_))
                go_roundw
                case rel => exact ⟨j + 1, F5, m2, by omega, by go_num, hL8, hv2, hN2, Lib.hid l8.out.rest.rest.rest⟩
                case measure => simp [intOf] <;> omega
            · have hne : (qa != z) = false := by simpa using ha
              have hS0 : decide (S = sec0) = true := decide_eq_true hS
              clear ha hS
              go_wp2_with (first
                | ((with_reducible refine guardList ?_)
                   refine wantList_store (by rfl) 23 _ _ rfl w7.heap.size 0 (by rfl) (secL W) (by rfl) _ (secL sec0) (secL W) (Blk.new w7 _ _) (by simp only [secL_length]; decide) (secL_one _) (infoSecL _) wholeS ?_
                   intro w8 hR8 k8 z8
                   have hL8 := Lib.hid (hL7.out.fresh k8)
                   have l8 := Lib.hid (l7.out.fresh hL7.out.p.at_.lt hL7.out.p.q.size k8 hR8)
                   have htc8 : w8.cell? ⟨tb, toff + j, none⟩ = some (.slice bo t.length tc) := (k8.cell (by simp; omega) (by simp; omega)).trans (cell_alloc htc7 _)
                   have htb8 : tb < w8.heap.size := by have := k8.size; simp at this; omega
                   obtain ⟨p0, p1, p2⟩ := PtrAt.cells (p := ⟨qa, qb, qs'⟩) l8.out.rest.rest.one
                   have hpl := l8.out.rest.rest.one.lt
                   clear hR8 k8 z8 p1 p2)
                | ((with_reducible refine at2Dst (some 99) (by rfl) ?_); refine wantList_load (by rfl) 23 _ rfl w5.heap.size 0 (by rfl) (secL S) _ (rangeB l8.out.rest.one) Try.underlying23 rfl (infoSecL _) ?_)
                | ((with_reducible refine at2Dst (some 100) (by rfl) ?_); refine wantList_build (by rfl) 23 [] rfl (secL sec0) _ (by rfl) built_sec0 ?_))
              go_roundw
              case rel => exact ⟨j + 1, F5, m2, by omega, by go_num, hL8, hv2, hN2, Lib.hid l8.out.rest.rest.rest⟩
              case measure => simp [intOf] <;> omega
        · obtain rfl : j = k := by omega
          go_wp2
          go_ret
          exact ⟨rfl, hL.out.p.q⟩

theorem own : ownKnob Try.prog.godebug = none := by kernel_rfl
theorem laidOut : laidOutB Try.prog = true := by kernel_rfl

set_option maxRecDepth 100000 in
theorem lifted (os : Os) (started : os.Started) (H : Type) (enc : TypeId × Value → H) :
    ReturnsInHanded {} Try.checked os 4 .any (Rows.pileReadsSpec.pre6 enc Try.prog Try.f4 Rows.pileReadsRow.domain false) (Rows.pileReadsSpec.post enc Try.prog Try.f4 false true false false) := by
  refine returnsInHanded_of_change_sized (C := Try.checked) own started (by kernel_rfl) Try.func4
    (ChangeSpec.witness6 (enc := enc) (C := Try.checked) false ⟨#[], #[.slice none 0 0, .int .i64 0, .agg (Array.replicate 128 (.int .u8 0))], []⟩ 8 (by kernel_rfl) (by kernel_rfl) (by kernel_rfl) (by kernel_rfl)) ?_
  intro W base args ds gs before hval0 hW hcnd hsz0 _
  have hval : ∀ (j : Nat) t v, Try.f4.params[j]? = some t → args[j]? = some v → Value.okWide Try.prog W .any base t v := hval0
  have hsz : (DataW.weightsEach Try.prog (Try.f4.params.toList ++ Rows.pileReadsSpec.plain.varTypes Try.prog) (ds ++ gs)).all (· ≤ reachBytes) = true := hsz0
  have hW' := hW
  obtain ⟨p, q, hA0, hV, rfl, hfz, hnd⟩ := hW
  have hA : DataW.TrodAll enc Try.prog W 0 (fun _ => true) true Try.f4.params.toList args.toList ds p := hA0
  rw [Try.params4] at hA hval hsz
  obtain ⟨v0, vs0, d0, ds0, p0, q0, hargs, rfl, rfl, h0, r0⟩ := trodAll_cons hA
  obtain ⟨v1, vs1, d1, ds1, p1, q1, rfl, rfl, rfl, h1, r1⟩ := trodAll_cons r0
  obtain ⟨v2, vs2, d2, ds2, p2, q2, rfl, rfl, rfl, h2, r2⟩ := trodAll_cons r1
  obtain ⟨rfl, rfl, rfl⟩ := trodAll_nil r2
  obtain rfl : args = #[v0, v1, v2] := by cases args; simp_all
  obtain ⟨rfl, rfl⟩ := trodVars_none hV
  have k0 := h0
  have lt0 : ∀ x ∈ p0, x.block < W.heap.size := by obtain ⟨m, hm⟩ := k0; exact DataW.trod_lt m _ _ _ hm
  obtain ⟨ao0, a0, cap0, rfl, sp0, fi0, nl0⟩ := arg_textsL h0 (hval 0 35 v0 rfl rfl) (light_arg hsz (j := 0) (t := 35) rfl rfl)
  obtain ⟨a1, rfl, rfl, rfl, wf1⟩ := open_int Try.underlying3 (hval 1 3 v1 rfl rfl) h1
  have k2 := h2
  have lt2 : ∀ x ∈ p2, x.block < W.heap.size := by obtain ⟨m, hm⟩ := k2; exact DataW.trod_lt m _ _ _ hm
  obtain ⟨a2, rfl⟩ := arg_sec h2 (hval 2 23 v2 rfl rfl)
  clear hA0 hval0 hsz0
  refine (walk ao0 a0 cap0 a1 a2 W sp0 fi0 nl0 (wf_i64 wf1) ).mono fun e W' ⟨he, bel⟩ => ?_
  subst he
  exact ⟨_, rfl, _, _, _, [], _, [], hW', trodAll_mk1 (shut_bool Try.underlying4 _), (trodAll_cons_mk (Below.trod laidOut (by kernel_rfl) (of_decide_eq_true (by kernel_rfl)) k0 bel lt0) (trodAll_cons_mk (shut_int Try.underlying3 wf1) (trodAll_cons_mk (Below.trod laidOut (by kernel_rfl) (of_decide_eq_true (by kernel_rfl)) k2 bel lt2) trodAll_mk0))), rfl, bel.frame _, fun h => by cases h⟩

theorem proved : Rows.PileReadsSaid :=
  OpenClaim.holds_of_wide 4 Try.f4 rfl rfl rfl rfl rfl rfl rfl ⟨rfl, rfl, rfl, rfl, rfl⟩ rfl rfl rfl rfl rfl (by kernel_rfl) Try.func4 (by kernel_rfl)
    (of_decide_eq_true (by kernel_rfl)) (by unfold Func.isWrapper; first | (rw [if_pos (by decide +kernel)]; kernel_rfl) | (rw [if_neg (by decide +kernel)]; exact ⟨rfl, rfl⟩))
    (fun os started H enc _ => lifted os started H enc)
end Go.Proofs.Ytkhjhkiieieogaa.lawPileReads
