/- The document's own Read answers the moves of any bytes. -/
import Derived.Test.YtlbglcmajbhflaaSlogK
namespace Go.Proofs.Ytlbglcmajbhflaa
open Go.ChangeShapes Go.WideShapes Go.ChangeAt Go.RowKit
set_option linter.unusedVariables false
set_option maxRecDepth 20000

/-- so many bytes of a slice, from so many on -/
theorem Bytes.part {w : World} {ao : Option Addr} {bs : List UInt8} (h : Bytes w ao bs) {cap l : Nat} (hc : bs.length ≤ cap) (n : Nat) : Bytes w (shiftA ao cap l) ((bs.drop l).take n) := (Bytes.shift h hc).take n

theorem cut_part (ao : Option Addr) (len cap p a b : Nat) (hab : a ≤ b) (h : p + b ≤ cap) (w : World) :
    (Instr.slice 35 (.slice ao len cap) (some (.int .i64 ((p : Int) + (a : Int)))) (some (.int .i64 ((p : Int) + (b : Int)))) none).run Try.prog w = .ok (.slice (shiftA ao cap (p + a)) (b - a) (cap - (p + a))) w := by
  have := run_cut_lh 35 5 Try.underlying35 cells5 ao len cap (p + a) (p + b) (by omega) h w
  rw [Int.natCast_add, Int.natCast_add, show p + b - (p + a) = b - a from by omega] at this
  exact this

theorem value_two (ao : Option Addr) (cap : Nat) (cs : List UInt8) (w : World) (hx : Bytes w ao cs) (hl : cs.length = 2) :
    Calls Try.prog 37 #[.slice ao 2 cap] w fun e w' => e = .returned (.int .u64 (valB cs : Int)) ∧ w = w' := by
  have := refValue_any ao cap cs w hx (by omega)
  rwa [hl] at this

theorem five_at {bs : List UInt8} {p : Nat} (h : p + 5 ≤ bs.length) : valB (((bs.drop p).take 5).take 1) = (bs[p]'(by omega)).toNat ∧ (((bs.drop p).take 5).drop 1).take 2 = (bs.drop (p + 1)).take 2 ∧ (((bs.drop p).take 5).drop 3).take 2 = (bs.drop (p + 3)).take 2 := by
  refine ⟨?_, ?_, ?_⟩
  · rw [List.drop_eq_getElem_cons (show p < bs.length by omega), List.take_succ_cons, List.take_succ_cons, List.take_zero]
    simp only [valB]
    omega
  · rw [List.drop_take, List.drop_drop, List.take_take]; simp
  · rw [List.drop_take, List.drop_drop, List.take_take]; simp

set_option maxHeartbeats 4000000 in
theorem mRefRead_any (bo : Option Addr) (cap : Nat) (bs : List UInt8) (w : World) (hx : Bytes w bo bs) (hc : bs.length ≤ cap) (hm : cap ≤ 9223372036854775807) :
    Calls Try.prog 21 #[.slice bo bs.length cap] w (ReadRes (readM bs) w) := by
  obtain ⟨i0, hi, hz0, hz1, hz2⟩ := info_parts infoMove
  have hx := Lib.hid hx
  by_cases hmod : bs.length % 5 = 0
  · by_cases hbig : bs.length ≤ 20480
    · obtain ⟨N, hN⟩ : ∃ N, bs.length = 5 * N := ⟨bs.length / 5, by omega⟩
      have hrd := Lib.hid (show readM bs = readN N bs by rw [readM_go hmod hbig, hN, show 5 * N / 5 = N from by omega])
      have hNb : N ≤ 4096 := by omega
      have hO := Lib.hid (OwnM.made w #[] 0 (base := w.heap.size) (Nat.le_refl _) (by decide) rfl)
      have hB := Lib.hid ((Below.refl w.heap.size w).alloc (Nat.le_refl _) (.cells #[] 55))
      have hq2 : ((bs.length : Int) % 5) = 0 := by omega
      have hN' := Lib.hid hN
      clear hN
      go_enter Try.func21, Try.ntmps21
      go_wp2
      go_loopw [4, 5, 6] (fun v i _ wr => ∃ (k p : Nat) (ms : List (Bool × Int × Int)), i = .int .i64 (p : Int) ∧ Hid (p + 5 * k = 5 * N) ∧ p ≤ bs.length ∧ OwnM wr w.heap.size v ms ∧ Hid (ms.length + k = N) ∧ Hid (readN N bs = (readN k (bs.drop p)).map (ms ++ ·)) ∧ Below w.heap.size w wr)
        (fun _ i _ _ => bs.length - (intOf i).toNat)
      case atStart => exact ⟨N, 0, [], rfl, Lib.hid (by omega), by omega, hO.out, Lib.hid (by simp), Lib.hid (by simp), hB.out⟩
      case round =>
        obtain ⟨k, p, ms, rfl, hpk, hpl, hown, hmk2, hrep, hb⟩ := hrel
        have hsz := hb.size
        by_cases hlt : p < bs.length
        · obtain ⟨j, rfl⟩ : ∃ j, k = j + 1 := ⟨k - 1, by have := hpk.out; have := hN'.out; omega⟩
          have h5 : p + 5 ≤ bs.length := by have := hpk.out; have := hN'.out; omega
          obtain ⟨f1, f2, f3⟩ := five_at h5
          have hxr : Bytes wr bo bs := Reads.below hx.out hb
          obtain ⟨b, off, rfl, c0, hbb⟩ := hxr.at (k := p) hlt
          have k1 : ∀ w, (Instr.slice 35 (.slice (some ⟨b, off, none⟩) bs.length cap) (some (.int .i64 ((p : Int) + 1))) (some (.int .i64 ((p : Int) + 3))) none).run Try.prog w = .ok (.slice (shiftA (some ⟨b, off, none⟩) cap (p + 1)) 2 (cap - (p + 1))) w := fun w => cut_part (some ⟨b, off, none⟩) bs.length cap p 1 3 (by omega) (by omega) w
          have k2 : ∀ w, (Instr.slice 35 (.slice (some ⟨b, off, none⟩) bs.length cap) (some (.int .i64 ((p : Int) + 3))) (some (.int .i64 ((p : Int) + 5))) none).run Try.prog w = .ok (.slice (shiftA (some ⟨b, off, none⟩) cap (p + 3)) 2 (cap - (p + 3))) w := fun w => cut_part (some ⟨b, off, none⟩) bs.length cap p 3 5 (by omega) (by omega) w
          have l1 : ((bs.drop (p + 1)).take 2).length = 2 := by simp; omega
          have l2 : ((bs.drop (p + 3)).take 2).length = 2 := by simp; omega
          have hV1 := Lib.hid (fun W (h : Below wr.heap.size wr W) => value_two (shiftA (some ⟨b, off, none⟩) cap (p + 1)) (cap - (p + 1)) _ W (Bytes.part (l := p + 1) (Reads.below hxr h) hc 2) l1)
          have hV2 := Lib.hid (fun W (h : Below wr.heap.size wr W) => value_two (shiftA (some ⟨b, off, none⟩) cap (p + 3)) (cap - (p + 3)) _ W (Bytes.part (l := p + 3) (Reads.below hxr h) hc 2) l2)
          have hs := valB_lt ((bs.drop (p + 1)).take 2)
          have hn := valB_lt ((bs.drop (p + 3)).take 2)
          rw [l1] at hs
          rw [l2] at hn
          have hone : oneM ((bs.drop p).take 5) = if valB (((bs.drop p).take 5).take 1) ≤ 1 ∧ withinB (valB ((((bs.drop p).take 5).drop 1).take 2) : Nat) (valB ((((bs.drop p).take 5).drop 3).take 2) : Nat) = true then some (valB (((bs.drop p).take 5).take 1) == 1, ((valB ((((bs.drop p).take 5).drop 1).take 2) : Nat) : Int), ((valB ((((bs.drop p).take 5).drop 3).take 2) : Nat) : Int)) else none := rfl
          rw [f1, f2, f3] at hone
          have hk := (bs[p]).toNat_lt
          clear f1 f2 f3 l1 l2 hxr
          generalize (bs[p]).toNat = q at *
          generalize valB ((bs.drop (p + 1)).take 2) = s at *
          generalize valB ((bs.drop (p + 3)).take 2) = n at *
          simp only [Nat.reducePow] at hs hn
          have hone := Lib.hid hone
          have hown := Lib.hid hown
          have hb := Lib.hid hb
          have hw1 : IntKind.i64.wrap (s : Int) = s := by rw [IntKind.wrap_i64]; omega
          have hw2 : IntKind.i64.wrap (n : Int) = n := by rw [IntKind.wrap_i64]; omega
          generalize shiftA (some ⟨b, off, none⟩) cap (p + 1) = ao1 at *
          generalize shiftA (some ⟨b, off, none⟩) cap (p + 3) = ao3 at *
          have hp1 : IntKind.i64.wrap ((p : Int) + 1) = (p : Int) + 1 := by rw [IntKind.wrap_i64]; omega
          have hp3 : IntKind.i64.wrap ((p : Int) + 3) = (p : Int) + 3 := by rw [IntKind.wrap_i64]; omega
          have hp5 : IntKind.i64.wrap ((p : Int) + 5) = (p : Int) + 5 := by rw [IntKind.wrap_i64]; omega
          generalize cap - (p + 1) = cap1 at *
          generalize cap - (p + 3) = cap3 at *
          go_wp2
          go_region_held3 (fun w' => w'.cell? ⟨b, off + p, none⟩ = some (.int .u8 (q : Int))) (first | exact hkk | go_keep)
            (first
              | (go_at_call 37; with_reducible refine Calls.mono (hV1.out _ (by first | exact (Below.refl _ _).drew | exact ((Below.refl _ _).alloc (Nat.le_refl _) _).drew)) ?_; rintro e w' ⟨rfl, rfl⟩)
              | (go_at_call 37; with_reducible refine Calls.mono (hV2.out _ (by first | exact (Below.refl _ _).drew | exact ((Below.refl _ _).alloc (Nat.le_refl _) _).drew)) ?_; rintro e w' ⟨rfl, rfl⟩))
          all_goals
            generalize hT : ((q : Int) == 1) = T
            obtain ⟨w3, hw3⟩ : ∃ w3 : World, w3 = (wr.alloc (.cells #[.bool T, .int .i64 (s : Int), .int .i64 (n : Int)] 55)).drew := ⟨_, rfl⟩
            rw [← hw3]
            have F : BoxM w3 wr.heap.size T s n ∧ w3.cell? ⟨b, off + p, none⟩ = some (.int .u8 (q : Int)) ∧ Below w.heap.size w w3 ∧ OwnM w3 w.heap.size u4 ms ∧ wr.heap.size < w3.heap.size := by
              subst hw3
              exact ⟨(BoxM.new wr T s n).below ((Below.refl _ _).drew), cell_alloc c0 _, (hb.out.alloc hb.out.size _).drew, hown.out.below (((Below.refl wr.heap.size wr).alloc (Nat.le_refl _) _).drew), by simp⟩
            obtain ⟨F1, F2, F3, F4, F5⟩ := F
            obtain ⟨m0, m1, m2⟩ := F1
            have F3 := Lib.hid F3
            have F4 := Lib.hid F4
            clear hw3 c0 hV1 hV2 k1 k2 hp1 hp3 hp5 hw1 hw2
            have hM := fun W => mRefRight_any T s n W (by omega) (by omega) (by omega) (by omega)
            by_cases hq1 : q ≤ 1
            · have hTk : T = (q == 1) := by
                rcases (show q = 0 ∨ q = 1 from by omega) with rfl | rfl
                · subst hT; rfl
                · subst hT; rfl
              cases hw : withinB s n
              · have hno := Lib.hid (show readM bs = none by rw [hrd.out]; exact readN_stop hrep.out (by rw [hone.out, if_neg (by rw [hw]; simp)]))
                rw [hw] at hM
                have hM := Lib.hid hM
                clear hw hTk
                go_wp2_with fail
                refine (hM.out _).mono ?_
                rintro e w5 ⟨rfl, hb5⟩
                have hb6 := Lib.hid (F3.out.trans (hb5.mono F3.out.size))
                go_wp2
                go_ret2
                exact ReadRes.no hno.out rfl hb6.out
              · have hst := Lib.hid (readN_step hrep.out (show oneM ((bs.drop p).take 5) = some (T, (s : Int), (n : Int)) by rw [hone.out, if_pos ⟨hq1, hw⟩, hTk]))
                rw [hw] at hM
                have hM := Lib.hid hM
                clear hw hTk
                go_wp2_with fail
                refine (hM.out _).mono ?_
                rintro e w5 ⟨rfl, hb5⟩
                have v0 := (hb5.cell (p := ⟨wr.heap.size, 0, none⟩) F5).trans m0
                have v1 := (hb5.cell (p := ⟨wr.heap.size, 1, none⟩) F5).trans m1
                have v2 := (hb5.cell (p := ⟨wr.heap.size, 2, none⟩) F5).trans m2
                have hz5 := hb5.size
                have hO1 := Lib.hid (F4.out.below hb5)
                have hb6 := Lib.hid (F3.out.trans (hb5.mono F3.out.size))
                have hs6 := hb6.out.size
                have hml := Lib.hid (show ms.length ≤ 4096 from by have := hmk2.out; omega)
                go_wp2_with (at_builtin; go_loud (refine wpList_pushN rfl _ _ 27 rfl w.heap.size 55 i0 _ 3 24 Try.underlying27 hi hz0 hz1 hz2 rfl (by decide) u4 _ _ w5 rfl hO1.out 1 #[.bool T, .int .i64 (s : Int), .int .i64 (n : Int)] rfl rfl (by intro u hu; simp at hu; rcases hu with rfl | rfl | rfl <;> rfl) (by have := hml.out; omega) (by have := hml.out; omega) hs6 ?_); intro v' w' ho hg hv; obtain ⟨g, cap, rfl⟩ := hv; have hg := Lib.hid hg; have ho := Lib.hid ho)
                go_roundw
                case rel =>
                  refine ⟨_, _, _, .int .i64 ((p : Int) + 5), ⟨j, p + 5, by go_num, Lib.hid (by have := hpk.out; omega), by omega, ms ++ [(T, (s : Int), (n : Int))], OwnM.pushed ho.out, Lib.hid (by have := hmk2.out; simp; omega), Lib.hid (by have := hst.out; rw [List.drop_drop] at this; exact this), hb6.out.trans (hg.out.out hs6 (fun g hg => (World.ownsRow.lt hO1.out g hg).1))⟩, rfl, rfl, rfl, rfl⟩
                case measure => simp [intOf] <;> omega
            · have hno := Lib.hid (show readM bs = none by rw [hrd.out]; exact readN_stop hrep.out (by rw [hone.out, if_neg (fun h => hq1 h.1)]))
              have hq2' : 1 < q := by omega
              clear hq1 hM
              go_wp2
              go_ret2
              exact ReadRes.no hno.out rfl F3.out
        · obtain rfl : p = bs.length := by omega
          have hk0 : k = 0 := by have := hpk.out; have := hN'.out; omega
          subst hk0
          have hyes := Lib.hid (show readM bs = some ms by rw [hrd.out]; exact readN_end hrep.out)
          have hown := Lib.hid hown
          have hb := Lib.hid hb
          go_wp2
          go_ret2
          exact ReadRes.yes hyes.out rfl hown.out hb.out
    · have hno := Lib.hid (readM_no (fun h => hbig h.2))
      have hq2 : ((bs.length : Int) % 5) = 0 := by omega
      have hbig' : 20480 < bs.length := by omega
      go_enter Try.func21, Try.ntmps21
      go_wp2
      go_ret2
      exact ReadRes.no hno.out rfl (Below.refl _ _)
  · have hno := Lib.hid (readM_no (fun h => hmod h.1))
    have hq2 : (((bs.length : Int) % 5) != 0) = true := by simp; omega
    go_enter Try.func21, Try.ntmps21
    go_wp2
    go_ret2
    exact ReadRes.no hno.out rfl (Below.refl _ _)
end Go.Proofs.Ytlbglcmajbhflaa
