/- Moves of the call's own; slog.Diff, slog.Condense answer the moves from one set to another, for every input. -/
import Derived.Test.YtlbglcmajbhflaaSlogB
import Derived.Test.YtlbglcmajbhflaaPushN
namespace Go.Proofs.Ytlbglcmajbhflaa
open Go.ChangeShapes Go.WideShapes Go.ChangeAt Go.RowKit
set_option linter.unusedVariables false
set_option maxRecDepth 20000

/-- a move's cells -/
def mvL (m : Bool × Int × Int) : List Value := [.bool m.1, .int .i64 m.2.1, .int .i64 m.2.2]
theorem mvL_length (m : Bool × Int × Int) : (mvL m).length = 3 := rfl
theorem mvL_one (m : Bool × Int × Int) : ∀ v ∈ mvL m, v.oneCell' = true := by
  intro v hv
  simp only [mvL, List.mem_cons, List.not_mem_nil, or_false] at hv
  rcases hv with rfl | rfl | rfl <;> rfl

/-- a slice of the call's own that holds these moves -/
def OwnM (w : World) (base : Nat) (v : Value) (ms : List (Bool × Int × Int)) : Prop := w.ownsRow base 55 3 v ms.length (rowsL mvL ms)

theorem infoMove : (Try.prog.info? 55).map (fun i => (i.zero, i.size, i.bytes)) = some (some (.agg #[.bool false, .int .i64 0, .int .i64 0]), 3, 24) := by kernel_rfl

theorem OwnM.nil (w : World) (base : Nat) : OwnM w base (.slice none 0 0) [] := World.ownsRow_nil _ _ _ _
theorem OwnM.shape {w : World} {base : Nat} {v : Value} {ms : List (Bool × Int × Int)} (h : OwnM w base v ms) : ∃ ao cap, v = .slice ao ms.length cap ∧ Moves w ao ms ∧ (∀ a, ao = some a → base ≤ a.block ∧ a.block < w.heap.size) ∧ ms.length ≤ cap ∧ cap ≤ maxLen ∧ (ao = none → cap = 0) := by
  have hc := h
  have hlt := World.ownsRow.lt h
  obtain ⟨hl, h | h⟩ := h
  · obtain ⟨rfl, hn⟩ := h
    obtain rfl : ms = [] := List.eq_nil_of_length_eq_zero hn
    exact ⟨none, 0, rfl, (fun i hi => by simp at hi), (fun a h => by cases h), Nat.le_refl _, Nat.zero_le _, fun _ => rfl⟩
  · obtain ⟨g, cap, cur, rfl, _, _, h1, h2, _⟩ := h
    have at_ : ∀ i (hi : i < ms.length) j v, (mvL ms[i])[j]? = some v → w.cell? ⟨g, i * 3 + j, none⟩ = some v := fun i hi j v hv => by
      have hj : j < 3 := (List.getElem?_eq_some_iff.1 hv).1
      rw [hc.cellAt (i * 3 + j) (by omega)]
      exact rowsL_at mvL_length ms i hi j v hv
    refine ⟨some ⟨g, 0, none⟩, cap, rfl, fun i hi => ⟨g, 0, rfl, ?_, ?_, ?_⟩, fun a ha => by cases ha; exact hlt g rfl, h1, h2, fun h => by cases h⟩
    · rw [Nat.zero_add]; exact at_ i hi 0 _ rfl
    · rw [Nat.zero_add]; exact at_ i hi 1 _ rfl
    · rw [Nat.zero_add]; exact at_ i hi 2 _ rfl
theorem OwnM.row {w : World} {base : Nat} {v : Value} {ms : List (Bool × Int × Int)} (h : OwnM w base v ms) : w.ownsRow base 55 3 v ms.length (rowsL mvL ms) := h
theorem OwnM.le {w : World} {base base' : Nat} {v : Value} {ms : List (Bool × Int × Int)} (h : OwnM w base v ms) (hb : base' ≤ base) : OwnM w base' v ms := by
  obtain ⟨hl, h | h⟩ := h
  · exact ⟨hl, .inl h⟩
  · obtain ⟨g, cap, cur, rfl, h1, h2⟩ := h
    exact ⟨hl, .inr ⟨g, cap, cur, rfl, by omega, h2⟩⟩
theorem row_below {w w' : World} {base : Nat} {e : TypeId} {size n : Nat} {v : Value} {xs : List Value} (h : w.ownsRow base e size v n xs) (hb : Below w.heap.size w w') : w'.ownsRow base e size v n xs :=
  h.kept (row := none) ⟨hb.os, hb.tape, hb.output, hb.size, fun k hk _ => hb.block k hk⟩ (by cases hv : v.ownBlock <;> simp)
theorem OwnM.below {w w' : World} {base : Nat} {v : Value} {ms : List (Bool × Int × Int)} (h : OwnM w base v ms) (hb : Below w.heap.size w w') : OwnM w' base v ms := row_below h hb
theorem OwnM.pushed {w : World} {base : Nat} {v : Value} {ms : List (Bool × Int × Int)} {t : Bool} {s n : Int} (h : w.ownsRow base 55 3 v (ms.length + 1) (rowsL mvL ms ++ [.bool t, .int .i64 s, .int .i64 n])) : OwnM w base v (ms ++ [(t, s, n)]) := by
  unfold OwnM
  rw [rowsL_append, rowsL_one, List.length_append]
  exact h
theorem OwnM.made (w : World) (cur : Array Value) (cap : Nat) {base : Nat} (hb : base ≤ w.heap.size) (hm : cap ≤ maxLen) (hs : cur.size = cap * 3) : OwnM (w.alloc (.cells cur 55)) base (.slice (some ⟨w.heap.size, 0, none⟩) 0 cap) [] :=
  World.ownsRow_made w cur cap hb hm hs
/-- rows of unlike elements lie in unlike blocks -/
theorem row_ne {w : World} {base base' size size' n n' : Nat} {e e' : TypeId} {v v' : Value} {xs xs' : List Value} (h : w.ownsRow base e size v n xs) (h' : w.ownsRow base' e' size' v' n' xs') (hne : e ≠ e') : v.ownBlock = none ∨ v.ownBlock ≠ v'.ownBlock := by
  obtain ⟨_, ⟨rfl, _⟩ | ⟨g, cap, cur, rfl, _, h2, _⟩⟩ := h
  · exact .inl rfl
  · right
    obtain ⟨_, ⟨rfl, _⟩ | ⟨g', cap', cur', rfl, _, h2', _⟩⟩ := h'
    · simp [Value.ownBlock]
    · intro eq
      have : g = g' := by simpa [Value.ownBlock] using eq
      subst this
      rw [h2] at h2'
      injection h2' with h2'
      injection h2' with _ ht
      exact hne ht

theorem make_moves (n : Nat) (hn : n ≤ 8192) (w : World) : ∃ cur : Array Value, cur.size = n * 3 ∧
    (Instr.makeSlice 27 (.int .i64 0) (.int .i64 (n : Int))).run Try.prog w = .ok (.slice (some ⟨w.heap.size, 0, none⟩) 0 n) (w.alloc (.cells cur 55)) := by
  obtain ⟨i0, hi, hz0, hz1, hz2⟩ := info_parts infoMove
  have := run_make (P := Try.prog) w 27 55 i0 _ Try.underlying27 hi hz0 .i64 .i64 0 n (Int.le_refl _) (by omega) (by rw [hz2]; omega) (by omega)
  refine ⟨_, ?_, by simpa using this⟩
  rw [size_madeCells, hz1]

theorem movesOf_snoc (t : Bool) (xs : List (Int × Int)) (k : Nat) {s n : Int} (h : xs.drop k = (s, n) :: xs.drop (k + 1)) : movesOf t (xs.take (k + 1)) = movesOf t (xs.take k) ++ [(t, s, n)] := by
  rw [take_of_drop h, movesOf_append]; rfl

/-- what a Diff answers -/
def MovesRes (ms : List (Bool × Int × Int)) (w : World) (e : Ending) (w' : World) : Prop :=
  ∃ v, e = .returned v ∧ OwnM w' w.heap.size v ms ∧ Below w.heap.size w w'

theorem diffL_no {xs ys : List (Int × Int)} (h : rightFrom 0 xs = false ∨ rightFrom 0 ys = false) : diffL xs ys = [] := by
  unfold diffL
  rw [if_neg (by rcases h with h | h <;> rw [h] <;> simp)]
theorem diffL_yes {xs ys : List (Int × Int)} (hx : rightFrom 0 xs = true) (hy : rightFrom 0 ys = true) : diffL xs ys = movesOf false (cutS xs ys) ++ movesOf true (cutS ys xs) := by
  unfold diffL; rw [if_pos ⟨hx, hy⟩]

theorem Cut_s (ao bo : Option Addr) (cap cap' : Nat) (xs ys : List (Int × Int)) (w : World) (hx : Spans w ao xs) (hr : rightFrom 0 xs = true) (hy : Spans w bo ys) (hr' : rightFrom 0 ys = true) :
    Calls Try.prog 31 #[.slice ao xs.length cap, .slice bo ys.length cap'] w fun e w' => ∃ co cc, e = .returned (.slice co (cutS xs ys).length cc) ∧ Spans w' co (cutS xs ys) ∧ Below w.heap.size w w' :=
  (Cut_any ao bo cap cap' xs ys w hx (right_fits hr) hr hy (right_fits hr') hr').mono fun e w' ⟨v, he, ho, hb⟩ => by
    obtain ⟨co, cc, rfl, hs⟩ := ho.spans
    exact ⟨co, cc, he, hs, hb⟩

set_option maxHeartbeats 4000000 in
theorem Diff_any (ao bo : Option Addr) (cap cap' : Nat) (xs ys : List (Int × Int)) (w : World) (hx : Spans w ao xs) (hf : Fits xs) (hy : Spans w bo ys) (hg : Fits ys) :
    Calls Try.prog 16 #[.slice ao xs.length cap, .slice bo ys.length cap'] w (MovesRes (diffL xs ys) w) := by
  obtain ⟨i0, hi, hz0, hz1, hz2⟩ := info_parts infoMove
  have hR := fun W (h : Below w.heap.size w W) => sRight_any ao cap xs W (hx.below h) hf
  have hR' := fun W (h : Below w.heap.size w W) => sRight_any bo cap' ys W (hy.below h) hg
  have hx := Lib.hid hx
  have hf := Lib.hid hf
  have hy := Lib.hid hy
  have hg := Lib.hid hg
  cases hr : rightFrom 0 xs
  · have hno := Lib.hid (diffL_no (ys := ys) (.inl hr))
    rw [hr] at hR
    have hR := Lib.hid hR
    clear hR' hr
    go_enter Try.func16, Try.ntmps16
    go_wp2_with fail
    refine (hR.out _ (Below.refl _ _)).mono ?_
    rintro e w1 ⟨rfl, hb1⟩
    have hb1 := Lib.hid hb1
    go_wp2
    go_ret
    rw [hno.out]
    exact ⟨_, rfl, OwnM.nil _ _, hb1.out⟩
  · rw [hr] at hR
    have hR := Lib.hid hR
    have hr := Lib.hid hr
    cases hr' : rightFrom 0 ys
    · have hno := Lib.hid (diffL_no (xs := xs) (.inr hr'))
      rw [hr'] at hR'
      have hR' := Lib.hid hR'
      clear hr'
      go_enter Try.func16, Try.ntmps16
      go_wp2_with fail
      refine (hR.out _ (Below.refl _ _)).mono ?_
      rintro e w1 ⟨rfl, hb1⟩
      have hb1 := Lib.hid hb1
      go_wp2_with fail
      refine (hR'.out _ hb1.out).mono ?_
      rintro e w2 ⟨rfl, hb2⟩
      have hb2 := Lib.hid (hb1.out.trans (hb2.mono hb1.out.size))
      go_wp2
      go_ret
      rw [hno.out]
      exact ⟨_, rfl, OwnM.nil _ _, hb2.out⟩
    · rw [hr'] at hR'
      have hR' := Lib.hid hR'
      have hr' := Lib.hid hr'
      have hD := Lib.hid (diffL_yes hr.out hr'.out)
      go_enter Try.func16, Try.ntmps16
      go_wp2_with fail
      refine (hR.out _ (Below.refl _ _)).mono ?_
      rintro e w1 ⟨rfl, hb1⟩
      have hb1 := Lib.hid hb1
      go_wp2_with fail
      refine (hR'.out _ hb1.out).mono ?_
      rintro e w2 ⟨rfl, hb2⟩
      have hb2 := Lib.hid (hb1.out.trans (hb2.mono hb1.out.size))
      go_wp2_with fail
      refine (Cut_s ao bo cap cap' xs ys w2 (hx.out.below hb2.out) hr.out (hy.out.below hb2.out) hr'.out).mono ?_
      rintro e w3 ⟨so, sc, rfl, hs1, hb3⟩
      have hb3 := Lib.hid (hb2.out.trans (hb3.mono hb2.out.size))
      have hs1 := Lib.hid hs1
      go_wp2_with fail
      refine (Cut_s bo ao cap' cap ys xs w3 (hy.out.below hb3.out) hr'.out (hx.out.below hb3.out) hr.out).mono ?_
      rintro e w4 ⟨to, tc, rfl, hs2, hb4⟩
      have hs1 := Lib.hid (hs1.out.below hb4)
      have hs2 := Lib.hid hs2
      have hb4 := Lib.hid (hb3.out.trans (hb4.mono hb3.out.size))
      have hc1 := cutS_length xs ys
      have hc2 := cutS_length ys xs
      have hcf1 := Lib.hid (right_fits (cutS_right xs ys))
      have hcf2 := Lib.hid (right_fits (cutS_right ys xs))
      generalize cutS xs ys = ps at *
      generalize cutS ys xs = qs at *
      obtain ⟨cur, hcs, hmk⟩ := make_moves (ps.length + qs.length) (by omega) w4
      rw [Int.natCast_add] at hmk
      have hO := Lib.hid (OwnM.made w4 cur (ps.length + qs.length) (Nat.le_refl _) (by unfold maxLen; omega) hcs)
      have hB := Lib.hid ((Below.refl w4.heap.size w4).alloc (Nat.le_refl _) (.cells cur 55))
      clear hcs
      go_wp2
      go_loopw [7, 9, 34] (fun v u i wr => ∃ k : Nat, k ≤ ps.length ∧ i = .int .i64 k ∧ OwnM wr w4.heap.size v (movesOf false (ps.take k)) ∧ Below w4.heap.size w4 wr)
        (fun _ _ i _ => ps.length - (intOf i).toNat)
      case atStart => exact ⟨0, by omega, rfl, hO.out, hB.out⟩
      case round =>
        obtain ⟨k, hk, rfl, hown, hb⟩ := hrel
        have hsz := hb.size
        by_cases hlt : k < ps.length
        · obtain ⟨b, off, s, n, rfl, hd, c1, c2, hbb, _, _, _, _⟩ := (hs1.out.below hb).get hcf1.out hlt
          have hol : (movesOf false (ps.take k)).length = k := by rw [movesOf_length, List.length_take]; omega
          have hown := Lib.hid hown
          have hb := Lib.hid hb
          go_wp2_with (at_builtin; go_loud (refine wpList_pushN rfl _ _ 27 rfl w4.heap.size 55 i0 _ 3 24 Try.underlying27 hi hz0 hz1 hz2 rfl (by decide) u7 _ _ (wr.alloc (.cells #[.int .i64 s, .int .i64 n] 53)) rfl (World.ownsRow.alloc hown.out _) 1 #[.bool false, .int .i64 s, .int .i64 n] (by rw [World.size_alloc]; rfl) rfl (by intro u hu; simp at hu; rcases hu with rfl | rfl | rfl <;> rfl) (by rw [hol]; omega) (by rw [hol]; omega) (by simp; omega) ?_); intro v' w' ho hg hv; obtain ⟨g, cap, rfl⟩ := hv; have hg := Lib.hid hg; have ho := Lib.hid ho)
          go_roundw
          case rel => exact ⟨k + 1, by omega, by go_num, (by have h1 := OwnM.pushed ho.out; rw [hol] at h1; rw [movesOf_snoc false ps k hd.out]; exact h1), ((hb.out.alloc hsz _)).trans (hg.out.out (by simp; omega) (fun g hg => (World.ownsRow.lt hown.out g hg).1))⟩
          case measure => simp [intOf] <;> omega
        · obtain rfl : k = ps.length := by omega
          rw [List.take_length] at hown
          have hol : (movesOf false ps).length = ps.length := movesOf_length _ _
          generalize movesOf false ps = ls at *
          have hown := Lib.hid hown
          have hb := Lib.hid hb
          go_wp2
          go_loopw [7, 11, 46] (fun v u i wr => ∃ k : Nat, k ≤ qs.length ∧ i = .int .i64 k ∧ OwnM wr w4.heap.size v (ls ++ movesOf true (qs.take k)) ∧ Below w4.heap.size w4 wr)
            (fun _ _ i _ => qs.length - (intOf i).toNat)
          case atStart => exact ⟨0, by omega, rfl, (by simpa [movesOf] using hown.out), hb.out⟩
          case round =>
            obtain ⟨k, hk, rfl, hown2, hb2⟩ := hrel
            have hsz2 := hb2.size
            by_cases hlt2 : k < qs.length
            · obtain ⟨b, off, s, n, rfl, hd, c1, c2, hbb, _, _, _, _⟩ := (hs2.out.below hb2).get hcf2.out hlt2
              have hol2 : (ls ++ movesOf true (qs.take k)).length = ls.length + k := by rw [List.length_append, movesOf_length, List.length_take]; omega
              have hown2 := Lib.hid hown2
              have hb2 := Lib.hid hb2
              go_wp2_with (at_builtin; go_loud (refine wpList_pushN rfl _ _ 27 rfl w4.heap.size 55 i0 _ 3 24 Try.underlying27 hi hz0 hz1 hz2 rfl (by decide) u7 _ _ (wr.alloc (.cells #[.int .i64 s, .int .i64 n] 53)) rfl (World.ownsRow.alloc hown2.out _) 1 #[.bool true, .int .i64 s, .int .i64 n] (by rw [World.size_alloc]; rfl) rfl (by intro u hu; simp at hu; rcases hu with rfl | rfl | rfl <;> rfl) (by rw [hol2]; omega) (by rw [hol2]; omega) (by simp; omega) ?_); intro v' w' ho hg hv; obtain ⟨g, cap, rfl⟩ := hv; have hg := Lib.hid hg; have ho := Lib.hid ho)
              go_roundw
              case rel => exact ⟨k + 1, by omega, by go_num, (by have h1 := OwnM.pushed ho.out; rw [hol2, hol] at h1; rw [movesOf_snoc true qs k hd.out, ← List.append_assoc]; exact h1), ((hb2.out.alloc hsz2 _)).trans (hg.out.out (by simp; omega) (fun g hg => (World.ownsRow.lt hown2.out g hg).1))⟩
              case measure => simp [intOf] <;> omega
            · obtain rfl : k = qs.length := by omega
              rw [List.take_length, ← hD.out] at hown2
              have hown2 := Lib.hid hown2
              have hb2 := Lib.hid hb2
              go_wp2
              go_ret
              exact ⟨_, rfl, hown2.out.le hb4.out.size, hb4.out.trans (hb2.out.mono hb4.out.size)⟩
end Go.Proofs.Ytlbglcmajbhflaa
