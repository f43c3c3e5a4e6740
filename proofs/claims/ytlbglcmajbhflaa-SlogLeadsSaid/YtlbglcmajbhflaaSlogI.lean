/- The document's own Bytes answers the bytes of any moves. -/
import Derived.Test.YtlbglcmajbhflaaSlogH
namespace Go.Proofs.Ytlbglcmajbhflaa
open Go.ChangeShapes Go.WideShapes Go.ChangeAt Go.RowKit
set_option linter.unusedVariables false
set_option maxRecDepth 20000

theorem moveV (t : Bool) (s n : Nat) (hs : s < 65536) (hn : n < 65536) :
    bytesV (moveB (t, (s : Int), (n : Int))) = [.int .u8 (kindN t : Nat), .int .u8 ((s : Int) % 256), .int .u8 ((s : Int) / 256), .int .u8 ((n : Int) % 256), .int .u8 ((n : Int) / 256)] := by
  have hk := kindN_lt t
  have e1 : (UInt8.ofNat (kindN t % 256)).toNat = kindN t := by simp; omega
  have key : ∀ z : Nat, z < 65536 → bytesV (leB 2 z) = [.int .u8 ((z : Int) % 256), .int .u8 ((z : Int) / 256)] := fun z hz => by
    have e2 : (UInt8.ofNat (z % 256)).toNat = z % 256 := by simp
    have e3 : (UInt8.ofNat (z / 256 % 256)).toNat = z / 256 := by simp; omega
    simp only [leB, bytesV, List.map_cons, List.map_nil, byteV, e2, e3]
    rw [Int.natCast_emod, Int.natCast_ediv]; rfl
  unfold moveB
  rw [bytesV_append, bytesV_append]
  dsimp only
  rw [Int.toNat_natCast, Int.toNat_natCast, key s hs, key n hn]
  simp only [leB, bytesV, List.map_cons, List.map_nil, byteV, e1]
  rfl

set_option maxHeartbeats 4000000 in
theorem mRefBytes_any (ao : Option Addr) (cap : Nat) (ms : List (Bool × Int × Int)) (w : World) (hx : Moves w ao ms) (hf : FitM ms) :
    Calls Try.prog 19 #[.slice ao ms.length cap] w (BytesRes (bytesM ms) w) := by
  obtain ⟨i0, hi, hz0, hz1, hz2⟩ := info_parts infoU8
  have hl := hf.2
  have hx := Lib.hid hx
  have hf := Lib.hid hf
  by_cases hlen : ms.length ≤ 4096
  · have hO := Lib.hid (Own.made w #[] 0 (base := w.heap.size) (e := 5) (Nat.le_refl _) (by decide) rfl)
    have hB := Lib.hid ((Below.refl w.heap.size w).alloc (Nat.le_refl _) (.cells #[] 5))
    go_enter Try.func19, Try.ntmps19
    go_wp2
    go_loopw [4, 6, 7, 14] (fun b _ _ i wr => ∃ k : Nat, k ≤ ms.length ∧ i = .int .i64 k ∧ Own wr w.heap.size 5 b (bytesV (flatB (ms.take k))) ∧ Hid (rightAll (ms.take k) = true) ∧ Below w.heap.size w wr)
      (fun _ _ _ i _ => ms.length - (intOf i).toNat)
    case atStart => exact ⟨0, by omega, rfl, hO.out, Lib.hid rfl, hB.out⟩
    case round =>
      obtain ⟨k, hk, rfl, ho, hrt, hb⟩ := hrel
      have hsz := hb.size
      by_cases hlt : k < ms.length
      · obtain ⟨b, off, t, s, n, rfl, hd, c0, c1, c2, hbb, g1, g2, g3, g4⟩ := (hx.out.below hb).get hf.out hlt
        have hbx := Lib.hid (BoxM.new wr t s n)
        have hM := fun W => mRefRight_any t s n W g1 g2 g3 g4
        have hb5 := Lib.hid (hb.alloc hsz (.cells #[.bool t, .int .i64 s, .int .i64 n] 55))
        have ho5 := Lib.hid (ho.below ((Below.refl wr.heap.size wr).alloc (Nat.le_refl _) (.cells #[.bool t, .int .i64 s, .int .i64 n] 55)))
        have hb := Lib.hid hb
        have ho := Lib.hid ho
        cases hw : withinB s n
        · have hno := Lib.hid (right_none hd.out hw)
          rw [hw] at hM
          have hM := Lib.hid hM
          clear hw
          go_wp2_with fail
          refine (hM.out _).mono ?_
          rintro e w3 ⟨rfl, hb6⟩
          have hb6 := Lib.hid (hb5.out.trans (hb6.mono hb5.out.size))
          go_wp2
          go_ret2
          exact BytesRes.no hno.out rfl hb6.out
        · obtain ⟨q0, q1, q2⟩ := withinB_true hw
          rw [hw] at hM
          have hM := Lib.hid hM
          have hw := Lib.hid hw
          obtain ⟨s, rfl⟩ := Int.eq_ofNat_of_zero_le q0
          obtain ⟨n, rfl⟩ := Int.eq_ofNat_of_zero_le (show 0 ≤ n from by omega)
          have hmv := Lib.hid (moveV t s n (by omega) (by omega))
          go_wp2_with fail
          refine (hM.out _).mono ?_
          rintro e w3 ⟨rfl, hb6r⟩
          have hbx3 := hbx.out.below hb6r
          have ho6 := Lib.hid (ho5.out.below hb6r)
          have hs6 := hb6r.size
          rw [World.size_alloc] at hs6
          obtain ⟨d0, d1, d2⟩ := hbx3
          have hb6 := Lib.hid (hb5.out.trans (hb6r.mono hb5.out.size))
          clear hb6r
          have hfl : (bytesV (flatB (ms.take k))).length = 5 * k := by rw [bytesV_length, flatB_length, List.length_take]; omega
          cases t
          · have hmv' : Hid (bytesV (moveB (false, (s : Int), (n : Int))) = [.int .u8 0, .int .u8 ((s : Int) % 256), .int .u8 ((s : Int) / 256), .int .u8 ((n : Int) % 256), .int .u8 ((n : Int) / 256)]) := Lib.hid hmv.out
            clear hmv
            have hO7 := Lib.hid (ho6.out.below ((Below.refl w3.heap.size w3).alloc (Nat.le_refl _) (.cells #[.int .u8 0, .int .u8 ((s : Int) % 256), .int .u8 ((s : Int) / 256), .int .u8 ((n : Int) % 256), .int .u8 ((n : Int) / 256)] 5)))
            have hB7 := Lib.hid (hb6.out.alloc hb6.out.size (.cells #[.int .u8 0, .int .u8 ((s : Int) % 256), .int .u8 ((s : Int) / 256), .int .u8 ((n : Int) % 256), .int .u8 ((n : Int) / 256)] 5))
            have hsz7 := hB7.out.size
            go_wp2_with (at_builtin; go_loud (refine wpList_own_app rfl _ _ 35 rfl w.heap.size 5 i0 (.int .u8 0) 1 Try.underlying35 hi hz0 hz1 hz2 rfl u4 _ _ rfl hO7.out (some ⟨w3.heap.size, 0, none⟩) 5 5 [.int .u8 0, .int .u8 ((s : Int) % 256), .int .u8 ((s : Int) / 256), .int .u8 ((n : Int) % 256), .int .u8 ((n : Int) / 256)] rfl (fun h => by cases h) rfl (by exact Reads.lit w3 _ _) (by intro u hu; simp at hu; rcases hu with rfl | rfl | rfl | rfl | rfl <;> rfl) (by rw [hfl]; omega) (by rw [hfl]; omega) hsz7 ?_); intro v' w' ho' hg'; have ho' := Lib.hid ho'; have hg' := Lib.hid hg')
            go_roundw
            case rel => exact ⟨k + 1, by omega, by go_num, (by have := ho'.out; rw [← hmv'.out, ← bytesV_append] at this; rw [take_of_drop hd.out, flatB_append, flatB_one]; exact this), Lib.hid (right_take hd.out hrt.out hw.out), hB7.out.trans (hg'.out.out hsz7 (fun g hg => (ho6.out.lt g hg).1))⟩
            case measure => simp [intOf] <;> omega
          · have hmv' : Hid (bytesV (moveB (true, (s : Int), (n : Int))) = [.int .u8 1, .int .u8 ((s : Int) % 256), .int .u8 ((s : Int) / 256), .int .u8 ((n : Int) % 256), .int .u8 ((n : Int) / 256)]) := Lib.hid hmv.out
            clear hmv
            have hO7 := Lib.hid (ho6.out.below ((Below.refl w3.heap.size w3).alloc (Nat.le_refl _) (.cells #[.int .u8 1, .int .u8 ((s : Int) % 256), .int .u8 ((s : Int) / 256), .int .u8 ((n : Int) % 256), .int .u8 ((n : Int) / 256)] 5)))
            have hB7 := Lib.hid (hb6.out.alloc hb6.out.size (.cells #[.int .u8 1, .int .u8 ((s : Int) % 256), .int .u8 ((s : Int) / 256), .int .u8 ((n : Int) % 256), .int .u8 ((n : Int) / 256)] 5))
            have hsz7 := hB7.out.size
            go_wp2_with (at_builtin; go_loud (refine wpList_own_app rfl _ _ 35 rfl w.heap.size 5 i0 (.int .u8 0) 1 Try.underlying35 hi hz0 hz1 hz2 rfl u4 _ _ rfl hO7.out (some ⟨w3.heap.size, 0, none⟩) 5 5 [.int .u8 1, .int .u8 ((s : Int) % 256), .int .u8 ((s : Int) / 256), .int .u8 ((n : Int) % 256), .int .u8 ((n : Int) / 256)] rfl (fun h => by cases h) rfl (by exact Reads.lit w3 _ _) (by intro u hu; simp at hu; rcases hu with rfl | rfl | rfl | rfl | rfl <;> rfl) (by rw [hfl]; omega) (by rw [hfl]; omega) hsz7 ?_); intro v' w' ho' hg'; have ho' := Lib.hid ho'; have hg' := Lib.hid hg')
            go_roundw
            case rel => exact ⟨k + 1, by omega, by go_num, (by have := ho'.out; rw [← hmv'.out, ← bytesV_append] at this; rw [take_of_drop hd.out, flatB_append, flatB_one]; exact this), Lib.hid (right_take hd.out hrt.out hw.out), hB7.out.trans (hg'.out.out hsz7 (fun g hg => (ho6.out.lt g hg).1))⟩
            case measure => simp [intOf] <;> omega
      · obtain rfl : k = ms.length := by omega
        rw [List.take_length] at ho
        have hyes : Hid (bytesM ms = some (flatB ms)) := Lib.hid (by unfold bytesM; rw [if_pos ⟨hlen, by have := hrt.out; rwa [List.take_length] at this⟩])
        have ho := Lib.hid ho
        have hb := Lib.hid hb
        go_wp2
        go_ret2
        exact BytesRes.yes hyes.out rfl ho.out hb.out
  · have hno : Hid (bytesM ms = none) := Lib.hid (by unfold bytesM; rw [if_neg (fun h => hlen h.1)])
    have hlen : 4096 < ms.length := by omega
    go_enter Try.func19, Try.ntmps19
    go_wp2
    go_ret2
    exact BytesRes.no hno.out rfl (Below.refl _ _)
end Go.Proofs.Ytlbglcmajbhflaa
