/- slog.Bytes answers the bytes of any moves. -/
import Derived.Test.YtlbglcmajbhflaaSlogB
import Derived.Test.YtlbglcmajbhflaaRow
import Derived.Deep.RegionHeld3
namespace Go.Proofs.Ytlbglcmajbhflaa
open Go.ChangeShapes Go.WideShapes Go.ChangeAt Go.RowKit
set_option linter.unusedVariables false
set_option maxRecDepth 20000

/-- what a Bytes answers -/
def BytesRes (o : Option (List UInt8)) (w : World) (e : Ending) (w' : World) : Prop :=
  ∃ v, e = .returned (.tuple #[v, .int .i64 (errM o)]) ∧ Own w' w.heap.size 5 v (bytesV (o.getD [])) ∧ Below w.heap.size w w'
theorem BytesRes.no {o : Option (List UInt8)} {w w' : World} {e : Ending} (ho : o = none) (he : e = .returned (.tuple #[.slice none 0 0, .int .i64 81])) (hb : Below w.heap.size w w') : BytesRes o w e w' := by
  subst ho
  exact ⟨_, he, Own.nil _ _ _, hb⟩
theorem BytesRes.yes {o : Option (List UInt8)} {bs : List UInt8} {w w' : World} {e : Ending} {v : Value} (ho : o = some bs) (he : e = .returned (.tuple #[v, .int .i64 0])) (hv : Own w' w.heap.size 5 v (bytesV bs)) (hb : Below w.heap.size w w') : BytesRes o w e w' := by
  subst ho
  exact ⟨_, he, hv, hb⟩

theorem mKind_exact (t : Bool) (s n : Int) (w : World) :
    Calls Try.prog 35 #[.agg #[.bool t, .int .i64 s, .int .i64 n]] w fun e w' => e = .returned (.int .u64 (kindN t : Nat)) ∧ w.alloc (.cells #[.bool t, .int .i64 s, .int .i64 n] 55) = w' := by
  cases t
  all_goals
    go_enter Try.func35, Try.ntmps35
    go_wp2
    go_ret
    exact ⟨rfl, rfl⟩

theorem ints_122 : I64s [1, 2, 2] := ⟨by intro z hz; simp at hz; unfold I64; omega, by simp⟩
theorem kindN_lt (t : Bool) : kindN t < 256 := by cases t <;> simp [kindN]

/-- the first block of three and the last -/
theorem reads_row {w : World} {k : Nat} {cur : Array Value} {e : TypeId} {fr : Nat × Nat} (h : w.heap[k]? = some (.cells cur e fr)) : Reads w (some ⟨k, 0, none⟩) cur.toList := by
  intro i hi
  have hi' : i < cur.size := by simpa using hi
  exact ⟨k, 0, rfl, by rw [cell_of_row w k (0 + i) cur e fr h]; simp [hi']⟩
theorem three_a (w : World) (A B C : Obj) : (((w.alloc A).alloc B).alloc C).heap[w.heap.size]? = some A := by
  rw [Below.heap_alloc _ C w.heap.size (by simp; omega), Below.heap_alloc _ B w.heap.size (by simp)]
  exact heap_alloc_new w A
theorem three_c (w : World) (A B C : Obj) : (((w.alloc A).alloc B).alloc C).heap[w.heap.size + 1 + 1]? = some C := by
  have := heap_alloc_new ((w.alloc A).alloc B) C
  simpa using this

theorem put_five {o : Option (List UInt8)} {w w' : World} {e : Ending} {m : Bool × Int × Int} (h : PutRes o w e w') (ho : o = some (moveB m)) :
    ∃ vo vc, e = .returned (.tuple #[.slice vo 5 vc, .int .i64 0]) ∧ Bytes w' vo (moveB m) ∧ (vo = none → vc = 0) ∧ Below w.heap.size w w' := by
  subst ho
  obtain ⟨v, rfl, hv, hb⟩ := h
  obtain ⟨vo, vc, rfl, _, _, h3, h4, _, _⟩ := hv.shape
  refine ⟨vo, vc, ?_, h4, h3, hb⟩
  simp [bytesV_length, moveB_length, errN]
theorem cell3 {w : World} {A B C : Obj} {a : Addr} {v : Value} (h : w.cell? a = some v) : (((w.alloc A).alloc B).alloc C).drew.cell? a = some v := cell_alloc (cell_alloc (cell_alloc h A) B) C
theorem right_take {ms : List (Bool × Int × Int)} {k : Nat} {t : Bool} {s n : Int} (hd : ms.drop k = (t, s, n) :: ms.drop (k + 1)) (h : rightAll (ms.take k) = true) (hw : withinB s n = true) : rightAll (ms.take (k + 1)) = true := by
  rw [take_of_drop hd]
  unfold rightAll at *
  rw [List.all_append, h]
  simpa using hw
theorem mem_of_drop' {α : Type} {l r : List α} {k : Nat} {a : α} (h : l.drop k = a :: r) : a ∈ l := List.mem_of_mem_drop (i := k) (by rw [h]; exact List.mem_cons_self)
theorem right_none {ms : List (Bool × Int × Int)} {k : Nat} {t : Bool} {s n : Int} (hd : ms.drop k = (t, s, n) :: ms.drop (k + 1)) (hw : withinB s n = false) : bytesM ms = none := by
  unfold bytesM
  have : rightAll ms = false := by
    cases e : rightAll ms
    · rfl
    · unfold rightAll at e
      have := List.all_eq_true.1 e _ (mem_of_drop' hd)
      rw [← hw, ← this]
  rw [if_neg (by rw [this]; simp)]

set_option maxHeartbeats 4000000 in
theorem mBytes_any (ao : Option Addr) (cap : Nat) (ms : List (Bool × Int × Int)) (w : World) (hx : Moves w ao ms) (hf : FitM ms) :
    Calls Try.prog 18 #[.slice ao ms.length cap] w (BytesRes (bytesM ms) w) := by
  obtain ⟨i0, hi, hz0, hz1, hz2⟩ := info_parts infoU8
  have hl := hf.2
  have hx := Lib.hid hx
  have hf := Lib.hid hf
  by_cases hlen : ms.length ≤ 4096
  · have hmk := fun w => run_make1 (P := Try.prog) 35 5 i0 (.int .u8 0) Try.underlying35 hi hz0 hz1 (5 * ms.length) (by rw [hz2]; omega) (by omega) w
    have hO := Lib.hid (Own.madeN w (Value.int .u8 0).cells (5 * ms.length) (base := w.heap.size) (e := 5) (Nat.le_refl _) (by unfold maxLen; omega))
    have hB := Lib.hid ((Below.refl w.heap.size w).alloc (Nat.le_refl _) (.cells (madeCells (Value.int .u8 0).cells (5 * ms.length)) 5))
    have e5 : ((5 * ms.length : Nat) : Int) = 5 * (ms.length : Int) := by omega
    simp only [e5] at hmk
    go_enter Try.func18, Try.ntmps18
    go_wp2
    go_loopw [4, 6, 7, 8, 18] (fun b _ _ _ i wr => ∃ k : Nat, k ≤ ms.length ∧ i = .int .i64 k ∧ Own wr w.heap.size 5 b (bytesV (flatB (ms.take k))) ∧ Hid (rightAll (ms.take k) = true) ∧ Below w.heap.size w wr)
      (fun _ _ _ _ i _ => ms.length - (intOf i).toNat)
    case atStart => exact ⟨0, by omega, rfl, hO.out, Lib.hid rfl, hB.out⟩
    case round =>
      obtain ⟨k, hk, rfl, ho, hrt, hb⟩ := hrel
      have hsz := hb.size
      by_cases hlt : k < ms.length
      · obtain ⟨b, off, t, s, n, rfl, hd, c0, c1, c2, hbb, g1, g2, g3, g4⟩ := (hx.out.below hb).get hf.out hlt
        have hbx := Lib.hid (BoxM.new wr t s n)
        have hM := fun W => mRight_any t s n W g1 g2 g3 g4
        have hb5 := Lib.hid (hb.alloc hsz (.cells #[.bool t, .int .i64 s, .int .i64 n] 55))
        have ho5 := Lib.hid (ho.below ((Below.refl wr.heap.size wr).alloc (Nat.le_refl _) (.cells #[.bool t, .int .i64 s, .int .i64 n] 55)))
        have hb := Lib.hid hb
        have ho := Lib.hid ho
        cases hw : withinB s n
        · have hno := Lib.hid (right_none hd.out hw)
          rw [hw] at hM
          have hM := Lib.hid hM
          clear hw
          go_wp2_with fail
          refine (hM.out _).mono ?_
          rintro e w3 ⟨rfl, hb6⟩
          have hb6 := Lib.hid (hb5.out.trans (hb6.mono hb5.out.size))
          go_wp2
          go_ret2
          exact BytesRes.no hno.out rfl hb6.out
        · obtain ⟨q0, q1, q2⟩ := withinB_true hw
          rw [hw] at hM
          have hM := Lib.hid hM
          have hw := Lib.hid hw
          obtain ⟨s, rfl⟩ := Int.eq_ofNat_of_zero_le q0
          obtain ⟨n, rfl⟩ := Int.eq_ofNat_of_zero_le (show 0 ≤ n from by omega)
          have hput : Hid (putL [1, 2, 2] [kindN t, s, n] = some (moveB (t, (s : Int), (n : Int)))) := Lib.hid (put_three (kindN_lt t) (by omega) (by omega))
          have hkl := kindN_lt t
          have hfit : Hid (Fit64 [kindN t, s, n]) := Lib.hid ⟨by intro z hz; simp at hz; omega, by simp⟩
          go_wp2_with fail
          refine (hM.out _).mono ?_
          rintro e w3 ⟨rfl, hb6⟩
          have hbx3 := hbx.out.below hb6
          have ho6 := Lib.hid (ho5.out.below hb6)
          have hs6 := hb6.size
          rw [World.size_alloc] at hs6
          obtain ⟨d0, d1, d2⟩ := hbx3
          have hb6 := Lib.hid (hb5.out.trans (hb6.mono hb5.out.size))
          go_wp2
          go_region_held3 (fun w' => w'.cell? ⟨wr.heap.size, 0, none⟩ = some (.bool t) ∧ w'.cell? ⟨wr.heap.size, 1, none⟩ = some (.int .i64 (s : Int)) ∧ w'.cell? ⟨wr.heap.size, 2, none⟩ = some (.int .i64 (n : Int))) (first | exact hkk | exact ⟨cell3 d0, cell3 d1, cell3 d2⟩ | go_keep)
            (first
              | (go_at_call 34; refine (mWidths_any _).mono ?_; rintro e w' ⟨rfl, rfl⟩)
              | (go_at_call 35; refine (mKind_exact t _ _ _).mono ?_; rintro e w' ⟨rfl, rfl⟩)
              | (go_at_call 33
                 rw [IntWalk.u64_in (s : Int) (by omega), IntWalk.u64_in (n : Int) (by omega)]
                 refine (Put_any (some ⟨w3.heap.size, 0, none⟩) (some ⟨w3.heap.size + 1 + 1, 0, none⟩) 3 3 [1, 2, 2] [kindN t, s, n] _ (reads_row (by exact three_a _ _ _ _)) (reads_row (by exact three_c _ _ _ _)) ints_122 hfit.out).mono ?_
                 intro e w5 hR
                 obtain ⟨vo, vc, rfl, hv4, hv3, hb7⟩ := put_five hR hput.out
                 have hkk : w5.cell? ⟨wr.heap.size, 0, none⟩ = some (.bool t) ∧ w5.cell? ⟨wr.heap.size, 1, none⟩ = some (.int .i64 (s : Int)) ∧ w5.cell? ⟨wr.heap.size, 2, none⟩ = some (.int .i64 (n : Int)) :=
                   ⟨(hb7.cell (p := ⟨wr.heap.size, 0, none⟩) (by simp; omega)).trans (cell3 d0), (hb7.cell (p := ⟨wr.heap.size, 1, none⟩) (by simp; omega)).trans (cell3 d1), (hb7.cell (p := ⟨wr.heap.size, 2, none⟩) (by simp; omega)).trans (cell3 d2)⟩
                 have hb7' : Below w3.heap.size w3 w5 := (((((Below.refl w3.heap.size w3).alloc (Nat.le_refl _) _).alloc (by simp) _).alloc (by simp; omega) _).drew).trans (hb7.mono (by simp; omega))
                 have hs7 := hb7'.size
                 have ho7 := Lib.hid (ho6.out.below hb7')
                 have hb8 := Lib.hid (hb6.out.trans (hb7'.mono hb6.out.size))
                 have hv3 := Lib.hid hv3
                 have hv4 := Lib.hid hv4
                 clear hb7 hb7'))
          all_goals
            have hfl : (bytesV (flatB (ms.take k))).length = 5 * k := by rw [bytesV_length, flatB_length, List.length_take]; omega
            have hsz8 := hb8.out.size
            go_wp2_with (at_builtin; go_loud (refine wpList_own_app rfl _ _ 35 rfl w.heap.size 5 i0 (.int .u8 0) 1 Try.underlying35 hi hz0 hz1 hz2 rfl u4 _ _ rfl ho7.out vo 5 vc (bytesV (moveB (t, (s : Int), (n : Int)))) rfl hv3.out (by rw [bytesV_length, moveB_length]) hv4.out (bytesV_one _) (by rw [hfl]; omega) (by rw [hfl]; omega) (by simpa using hsz8) ?_); intro v' w' ho' hg'; have ho' := Lib.hid ho'; have hg' := Lib.hid hg')
            go_roundw
            case rel => exact ⟨k + 1, by omega, by go_num, (by have := ho'.out; rw [← bytesV_append] at this; rw [take_of_drop hd.out, flatB_append, flatB_one]; exact this), Lib.hid (right_take hd.out hrt.out hw.out), hb8.out.trans (hg'.out.out (by simpa using hsz8) (fun g hg => (ho7.out.lt g hg).1))⟩
            case measure => simp [intOf] <;> omega
      · obtain rfl : k = ms.length := by omega
        rw [List.take_length] at ho
        have hyes : Hid (bytesM ms = some (flatB ms)) := Lib.hid (by unfold bytesM; rw [if_pos ⟨hlen, by have := hrt.out; rwa [List.take_length] at this⟩])
        have ho := Lib.hid ho
        have hb := Lib.hid hb
        go_wp2
        go_ret2
        exact BytesRes.yes hyes.out rfl ho.out hb.out
  · have hno : Hid (bytesM ms = none) := Lib.hid (by unfold bytesM; rw [if_neg (fun h => hlen h.1)])
    have hlen : 4096 < ms.length := by omega
    go_enter Try.func18, Try.ntmps18
    go_wp2
    go_ret2
    exact BytesRes.no hno.out rfl (Below.refl _ _)
end Go.Proofs.Ytlbglcmajbhflaa
