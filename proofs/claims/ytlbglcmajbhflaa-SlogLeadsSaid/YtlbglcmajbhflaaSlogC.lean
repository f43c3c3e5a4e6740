/- slog.Replay answers the set behind the moves, for every input. -/
import Derived.Test.YtlbglcmajbhflaaSlogB
import Derived.Test.YtlbglcmajbhflaaRow
namespace Go.Proofs.Ytlbglcmajbhflaa
open Go.ChangeShapes Go.WideShapes Go.ChangeAt Go.RowKit
set_option linter.unusedVariables false
set_option maxRecDepth 20000

/-- what a Replay answers -/
def ReplRes (o : Option (List (Int × Int))) (w : World) (e : Ending) (w' : World) : Prop :=
  ∃ v, e = .returned (.tuple #[v, .int .i64 (errM o)]) ∧ OwnS w' w.heap.size v (o.getD []) ∧ Below w.heap.size w w'
theorem ReplRes.no {o : Option (List (Int × Int))} {w w' : World} {e : Ending} (ho : o = none) (he : e = .returned (.tuple #[.slice none 0 0, .int .i64 81])) (hb : Below w.heap.size w w') : ReplRes o w e w' := by
  subst ho
  exact ⟨_, he, World.ownsRow_nil _ _ _ _, hb⟩
theorem ReplRes.yes {o : Option (List (Int × Int))} {ys : List (Int × Int)} {w w' : World} {e : Ending} {v : Value} (ho : o = some ys) (he : e = .returned (.tuple #[v, .int .i64 0])) (hv : OwnS w' w.heap.size v ys) (hb : Below w.heap.size w w') : ReplRes o w e w' := by
  subst ho
  exact ⟨_, he, hv, hb⟩

theorem Nums.kept {F : Nat → Prop} {w w' : World} {ao : Option Addr} {zs : List Int} (h : Nums w ao zs) (k : Kept F w w') (hn : ∀ a, ao = some a → ¬ F a.block) : Nums w' ao zs := by
  intro i hi
  obtain ⟨b, off, e, c1⟩ := h i hi
  exact ⟨b, off, e, (k.cell (p := ⟨b, off + i, none⟩) (cell_lt c1) (by have := hn _ e; exact this)).trans c1⟩
theorem numsL_range {f : Nat → Bool} {z : Int} (h : z ∈ numsL f 4096) : 0 ≤ z ∧ z < 4096 := by
  unfold numsL at h
  simp only [List.mem_map, List.mem_filter, List.mem_range] at h
  obtain ⟨i, ⟨h1, _⟩, rfl⟩ := h
  simp only [Int.ofNat_eq_natCast]
  omega
theorem mem_of_drop {α : Type} {l r : List α} {k : Nat} {a : α} (h : l.drop k = a :: r) : a ∈ l := List.mem_of_mem_drop (i := k) (by rw [h]; exact List.mem_cons_self)
theorem replay_step {f g : Nat → Bool} {ms : List (Bool × Int × Int)} {k : Nat} {t : Bool} {s n : Int} (h : replayF f ms = replayF g (ms.drop k)) (hd : ms.drop k = (t, s, n) :: ms.drop (k + 1)) (hw : withinB s n = true) (hc : Can g t s n) :
    replayF f ms = replayF (doF g t s n) (ms.drop (k + 1)) := by rw [h, hd, replayF_go hw hc]

set_option maxHeartbeats 4000000 in
theorem Replay_any (ao bo : Option Addr) (cap cap' : Nat) (xs : List (Int × Int)) (ms : List (Bool × Int × Int)) (w : World) (hx : Spans w ao xs) (hf : Fits xs) (hy : Moves w bo ms) (hg : FitM ms) :
    Calls Try.prog 10 #[.slice ao xs.length cap, .slice bo ms.length cap'] w (ReplRes (replayL xs ms) w) := by
  have hl := hf.2
  have hl' := hg.2
  have hR := Lib.hid (sRight_any ao cap xs w hx hf)
  have hx := Lib.hid hx
  have hf := Lib.hid hf
  have hy := Lib.hid hy
  have hg := Lib.hid hg
  have hz := zeroMarks8
  cases hr : rightFrom 0 xs
  · have hno := Lib.hid (replayL_wrong hr ms)
    have hR0 := hR.out
    rw [hr] at hR0
    clear hR
    have hR := Lib.hid hR0
    clear hR0 hr
    go_enter Try.func10, Try.ntmps10
    go_wp2_with fail
    refine hR.out.mono ?_
    rintro e w1 ⟨rfl, hb1⟩
    have hb1 := Lib.hid hb1
    go_wp2
    go_ret2
    exact ReplRes.no hno.out rfl hb1.out
  · have hR0 := hR.out
    rw [hr] at hR0
    clear hR
    have hR := Lib.hid hR0
    clear hR0
    have hr := Lib.hid hr
    go_enter Try.func10, Try.ntmps10
    go_wp2_with fail
    refine hR.out.mono ?_
    rintro e w1 ⟨rfl, hb1⟩
    have hs1 := hb1.size
    have hb1 := Lib.hid hb1
    go_wp2_with fail
    have hb2 := Lib.hid ((Below.refl w1.heap.size w1).alloc (Nat.le_refl _) (.cells (bools fun _ => false) 49))
    refine (List_any ao cap xs _ ((hx.out.below hb1.out).below hb2.out) hf.out hr.out).mono ?_
    rintro e w2 ⟨v, rfl, ho, hb3⟩
    rw [World.size_alloc] at ho hb3
    obtain ⟨zo, zc, rfl, hzs, hza⟩ := ho.shape
    have hs2 := hb3.size
    rw [World.size_alloc] at hs2
    have hm2 := Lib.hid ((Marked.new w1 49 (fun _ => false)).below hb3 (by omega))
    have hb3 := Lib.hid ((hb1.out.trans (hb2.out.mono hs1)).trans (hb3.mono (by omega)))
    have hzs := Lib.hid hzs
    have hza : ∀ a, zo = some a → ¬ (a.block = w1.heap.size) := fun a e h => by have := (hza a e).1; omega
    have hza := Lib.hid hza
    have hzf := Lib.hid (numsL_map (maskS xs) 4096 (Nat.le_refl _))
    have hzr := Lib.hid (fun z (h : z ∈ numsL (maskS xs) 4096) => numsL_range h)
    have hmask := Lib.hid (fun j (hj : j < 4096) => maskOf_nums (maskS xs) j hj)
    have hnl := numsL_length (maskS xs) 4096
    clear ho
    generalize numsL (maskS xs) 4096 = zs at *
    go_wp2
    go_loopw [8, 17] (fun u i wr => ∃ k : Nat, k ≤ zs.length ∧ i = .int .i64 k ∧ Marked wr w1.heap.size 49 (maskOf (zs.take k)) ∧ Kept (· = w1.heap.size) w2 wr)
      (fun _ i _ => zs.length - (intOf i).toNat)
    case atStart => exact ⟨0, by omega, rfl, hm2.out.congr (fun i _ => by simp [maskOf]), Kept.refl _ _⟩
    case round =>
      obtain ⟨k, hk, rfl, hm, hkp⟩ := hrel
      by_cases hlt : k < zs.length
      · obtain ⟨b, off, z, rfl, hd, ht, c1, hbb, hz1, hz2⟩ := (hzs.out.kept hkp hza.out).get hzf.out hlt
        obtain ⟨h0, h1⟩ := hzr.out z (mem_of_drop hd.out)
        obtain ⟨m, rfl⟩ := Int.eq_ofNat_of_zero_le h0
        have hm4 : m < 4096 := by omega
        have c2 := hm.cell hm4
        have f2 := hm.frozen m
        have hm := Lib.hid hm
        have hkp := Lib.hid hkp
        go_wp2
        go_roundw
        case rel => exact ⟨k + 1, by omega, by go_num, (hm.out.set m true).congr (fun j _ => by rw [ht.out, mask_in]), hkp.out.setCell rfl _⟩
        case measure => simp [intOf] <;> omega
      · obtain rfl : k = zs.length := by omega
        rw [List.take_length] at hm
        have hm := hm.congr hmask.out
        have hb4 := Kept.out hb3.out hkp (fun i _ h => by omega) (by omega)
        clear hkp
        obtain ⟨w0, hw0⟩ : ∃ w0 : World, w0 = wr := ⟨_, rfl⟩
        subst hw0
        have hm := Lib.hid hm
        have hb4 := Lib.hid hb4
        go_wp2
        go_loopw [10, 26] (fun u i wr => ∃ (k : Nat) (g : Nat → Bool), k ≤ ms.length ∧ i = .int .i64 k ∧ Marked wr w1.heap.size 49 g ∧ Hid (replayF (maskS xs) ms = replayF g (ms.drop k)) ∧ Below w.heap.size w wr)
          (fun _ i _ => ms.length - (intOf i).toNat)
        case atStart => exact ⟨0, maskS xs, by omega, rfl, hm.out, Lib.hid (by simp), hb4.out⟩
        case round =>
          obtain ⟨k, f, hk, rfl, hmf, hrep, hb⟩ := hrel
          have hblt := hmf.lt
          by_cases hlt : k < ms.length
          · obtain ⟨b, off, t, s, n, rfl, hd, c0, c1, c2, hbb, g1, g2, g3, g4⟩ := (hy.out.below hb).get hg.out hlt
            have hb5 := Lib.hid (hb.alloc hb.size (.cells #[.bool t, .int .i64 s, .int .i64 n] 55))
            have hmf2 := Lib.hid (hmf.alloc (.cells #[.bool t, .int .i64 s, .int .i64 n] 55))
            have hbx := Lib.hid (BoxM.new wr t s n)
            have hsz := hb.size
            have hmf := Lib.hid hmf
            have hb := Lib.hid hb
            cases hw : withinB s n
            · have hno := Lib.hid (show replayL xs ms = none by rw [replayL_right hr.out, hrep.out, hd.out, replayF_wrong hw]; rfl)
              have hM := fun W => mRight_any t s n W g1 g2 g3 g4
              rw [hw] at hM
              have hM := Lib.hid hM
              clear hw
              go_wp2_with fail
              refine (hM.out _).mono ?_
              rintro e w3 ⟨rfl, hb6⟩
              have hb6 := Lib.hid (hb5.out.trans (hb6.mono hb5.out.size))
              go_wp2
              go_ret2
              exact ReplRes.no hno.out rfl hb6.out
            · obtain ⟨q0, q1, q2⟩ := withinB_true hw
              have hM := fun W => mRight_any t s n W g1 g2 g3 g4
              rw [hw] at hM
              have hM := Lib.hid hM
              have hw := Lib.hid hw
              obtain ⟨s, rfl⟩ := Int.eq_ofNat_of_zero_le q0
              obtain ⟨n, rfl⟩ := Int.eq_ofNat_of_zero_le (show 0 ≤ n from by omega)
              have hsn : s + n ≤ 4096 := by omega
              go_wp2_with fail
              refine (hM.out _).mono ?_
              rintro e w3 ⟨rfl, hb6⟩
              have hbx3 := hbx.out.below hb6
              have hmf3 := hmf2.out.below hb6 (by simp; omega)
              obtain ⟨d0, d1, d2⟩ := hbx3
              have hs6 := hb6.size
              rw [World.size_alloc] at hs6
              have hb6 := Lib.hid (hb5.out.trans (hb6.mono hb5.out.size))
              have hmf3 := Lib.hid hmf3
              go_wp2_with fail
              refine (do_any w1.heap.size _ f t s n w3 hmf3.out hsn).mono ?_
              rintro e w4 ⟨hb7, hres⟩
              have hb7 := Lib.hid (hb6.out.trans (hb7.mono hs1))
              rcases hres with ⟨hcan, rfl, hm7⟩ | ⟨hcan, rfl⟩
              · have hcan := Lib.hid hcan
                have hm7 := Lib.hid hm7
                go_wp2
                go_roundw
                case rel => exact ⟨k + 1, _, by omega, by go_num, hm7.out, Lib.hid (replay_step hrep.out hd.out hw.out hcan.out), hb7.out⟩
                case measure => simp [intOf] <;> omega
              · have hno := Lib.hid (show replayL xs ms = none by rw [replayL_right hr.out, hrep.out, hd.out, replayF_stop hcan]; rfl)
                clear hcan
                go_wp2
                go_ret2
                exact ReplRes.no hno.out rfl hb7.out
          · obtain rfl : k = ms.length := by omega
            have hyes := Lib.hid (replayL_runs (g := f) hr.out (by rw [hrep.out, List.drop_length, replayF_nil]))
            have hsz := hb.size
            have hb := Lib.hid hb
            have hmf := Lib.hid hmf
            go_wp2_with fail
            refine (mSet_any w1.heap.size _ f wr hmf.out).mono ?_
            rintro e w3 ⟨v, rfl, ho3, hb3⟩
            have ho3 := Lib.hid ho3
            have hb8 := Lib.hid (hb.out.trans (hb3.mono hsz))
            clear hb3
            go_wp2
            go_ret2
            exact ReplRes.yes hyes.out rfl (ho3.out.le hsz) hb8.out
end Go.Proofs.Ytlbglcmajbhflaa
