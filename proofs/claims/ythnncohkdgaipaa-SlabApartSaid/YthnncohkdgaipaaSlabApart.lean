/- SlabApart, for every input: the law returns true and each argument reads behind the call as before. No condition. -/
import Derived.Test.YthnncohkdgaipaaSlabK
namespace Go.Proofs.Ythnncohkdgaipaa.lawSlabApart
open Go.ChangeShapes Go.WideShapes Go.ChangeAt Go.RowKit Go.Deep
set_option linter.unusedVariables false
set_option maxRecDepth 20000

set_option maxHeartbeats 16000000 in
theorem walk (total : Int) (ao : Option Addr) (xs : List (Int × Int)) (cap : Nat) (w : World) (ht : I64 total) (hx : Spans w ao xs) (hf : Fits xs) (hn : ao = none → xs = [] ∧ cap = 0) :
    Calls Try.prog 4 #[.int .i64 total, .slice ao xs.length cap] w fun e w' => e = .returned (.bool true) ∧ Below w.heap.size w w' := by
  have Hx := Lib.hid hx
  have Hf := Lib.hid hf
  have Ht := Lib.hid ht
  have hl := hf.2
  have hz := zero47
  have hbs := bools_size
  unfold I64 at ht
  clear hx hf hn
  go_enter Try.func4, Try.ntmps4
  go_wp2_with fail
  refine (slabAlive_any w).mono ?_
  rintro e w1 ⟨rfl, b1⟩
  have s1 := b1.size
  have b1 := Lib.hid b1
  go_wp2_with fail
  refine (New_at total w1 Ht.out).mono ?_
  rintro e w2 ⟨B, rfl, hB, m2, b2⟩
  have s2 := b2.size
  have l2 := m2.lt
  have hBw : w.heap.size ≤ B := by omega
  have b2 : Hid (Below w.heap.size w w2) := Lib.hid (b1.out.trans (b2.mono s1))
  have m2 := Lib.hid m2
  clear hB b1
  by_cases h200 : 200 < xs.length
  · go_wp2
    go_ret
    exact ⟨rfl, b2.out⟩
  by_cases h4 : total < 4
  · go_wp2
    go_ret
    exact ⟨rfl, b2.out⟩
  by_cases h1024 : 1024 < total
  · go_wp2
    go_ret
    exact ⟨rfl, b2.out⟩
  obtain ⟨T, rfl⟩ : ∃ T : Nat, total = T := ⟨total.toNat, by omega⟩
  have hA0 : Hid (Apart7 T (newS (T : Int)) (fun _ => false) (fun _ => false)) := Lib.hid (Apart7.start (by omega))
  have hst : ∀ (w : World) (f g : Nat → Bool), (storeCells ⟨w.heap.size, 0, none⟩ (bools g).toList).run Try.prog (w.alloc (.cells (bools f) 29)) = .ok () (w.alloc (.cells (bools g) 29)) := fun w f g => store_bools_new w 29 f g
  have hsa := hst w2 (fun _ => false) (fun _ => false)
  have hsb := hst (w2.alloc (.cells (bools fun _ => false) 29)) (fun _ => false) (fun _ => false)
  have hsize : (w2.alloc (.cells (bools fun _ => false) 29)).heap.size = w2.heap.size + 1 := by simp
  rw [hsize] at hsb
  clear hst hsize
  go_wp2
  clear hsa hsb
  obtain ⟨H, V, hH, hV, hHB, hVH, mh2, mv2, mm2, bb2⟩ : ∃ H V, H = w2.heap.size ∧ V = w2.heap.size + 1 ∧ B < H ∧ H < V ∧ Marked ((w2.alloc (.cells (bools fun _ => false) 29)).alloc (.cells (bools fun _ => false) 29)) H 29 (fun _ => false) ∧ Marked ((w2.alloc (.cells (bools fun _ => false) 29)).alloc (.cells (bools fun _ => false) 29)) V 29 (fun _ => false) ∧ MapAt ((w2.alloc (.cells (bools fun _ => false) 29)).alloc (.cells (bools fun _ => false) 29)) B (newS (T : Int)) ∧ Below w.heap.size w ((w2.alloc (.cells (bools fun _ => false) 29)).alloc (.cells (bools fun _ => false) 29)) :=
    ⟨_, _, rfl, rfl, l2, by omega, (Marked.new w2 _ _).alloc _, by have := Marked.new (w2.alloc (.cells (bools fun _ => false) 29)) 29 (fun _ => false); simpa using this, (m2.out.alloc _).alloc _, (b2.out.alloc (by omega) _).alloc (by simp; omega) _⟩
  rw [← hV, ← hH]
  have mh2 := Lib.hid mh2
  have mv2 := Lib.hid mv2
  have mm2 := Lib.hid mm2
  have bb2 := Lib.hid bb2
  clear m2 b2 hH hV
  go_loopw [42] (fun i wr => ∃ (k : Nat) (f : Nat → Nat) (h v : Nat → Bool), k ≤ xs.length ∧ i = .int .i64 k ∧ Hid (Apart7 T f h v) ∧ MapAt wr B f ∧ Marked wr H 29 h ∧ Marked wr V 29 v ∧ Below w.heap.size w wr)
    (fun i _ => xs.length - (intOf i).toNat)
  case atStart => exact ⟨0, _, _, _, by omega, rfl, hA0, mm2.out, mh2.out, mv2.out, bb2.out⟩
  case round =>
    obtain ⟨k, f, h, v, hk, rfl, hA, hm, hmh, hmv, hb⟩ := hrel
    have hbs0 := hb.size
    have hlm := hm.lt
    have hlv := hmv.lt
    by_cases hlt : k < xs.length
    · obtain ⟨b, off, s, n, rfl, hd, c1, c2, hbb, hs1, hs2, hn1, hn2⟩ := (Hx.out.below hb).get Hf.out hlt
      have q := Blk.new wr 31 [.int .i64 s, .int .i64 n]
      have m3 : Hid (MapAt _ B f) := Lib.hid (hm.alloc (.cells #[.int .i64 s, .int .i64 n] 31))
      have mh3 : Hid (Marked _ H 29 h) := Lib.hid (hmh.alloc (.cells #[.int .i64 s, .int .i64 n] 31))
      have mv3 : Hid (Marked _ V 29 v) := Lib.hid (hmv.alloc (.cells #[.int .i64 s, .int .i64 n] 31))
      have b3 := Lib.hid (hb.alloc hbs0 (.cells #[.int .i64 s, .int .i64 n] 31))
      have s3 : (wr.alloc (.cells #[.int .i64 s, .int .i64 n] 31)).heap.size = wr.heap.size + 1 := by simp
      have q := Lib.hid q
      clear hm hmh hmv hb
      by_cases hk0 : s = 0
      · subst hk0
        obtain ⟨z, hzb, hmin⟩ : ∃ z : Int, (-9223372036854775808 ≤ z ∧ z ≤ 20) ∧ ∀ (ts : Array TypeId) (t : TypeId) (W : World), Sem.run Try.prog (Builtin.min_ ts t #[.int .i64 n, .int .i64 20]) W = .ok (.int .i64 z) W :=
          ⟨if (20 : Int) < n then 20 else n, by split <;> omega, fun ts t W => run_min_int2 (P := Try.prog) W ts t .i64 .i64 n 20⟩
        go_wp2_with fail
        clear hmin
        refine (Many_got B f _ _ m3.out (by unfold I64; omega)).mono ?_
        rintro e w3 (⟨N, ao3, cap3, hN, rfl, hns, hlo, m4, k4⟩ | ⟨ao3, cap3, rfl, m4, k4⟩)
        · have b4 := Lib.hid (Kept.out b3.out k4 (fun q _ e => by omega) (by omega))
          have s4 := k4.size
          have mh4 : Hid (Marked _ H 29 h) := Lib.hid (mh3.out.kept7 k4 (by show ¬ H = B; omega))
          have mv4 : Hid (Marked _ V 29 v) := Lib.hid (mv3.out.kept7 k4 (by show ¬ V = B; omega))
          have m4 := Lib.hid m4
          have hlen : ((manyL f N).map Int.ofNat).length = N := by rw [List.length_map, manyL_length]
          have hNc : N ≤ 1024 := by have := countN_le f; omega
          have hlen := Lib.hid hlen
          have hns := Lib.hid hns
          have hlo := Lib.hid hlo
          have hN := Lib.hid hN
          clear k4
          go_wp2
          go_loopw [64] (fun i wq => ∃ (t : Nat) (h' : Nat → Bool), t ≤ N ∧ i = .int .i64 t ∧ Hid (Apart7 T (manyF f t) h' v) ∧ MapAt wq B (manyF f N) ∧ Marked wq H 29 h' ∧ Marked wq V 29 v ∧ Kept (fun k => k = H) w3 wq ∧ Below w.heap.size w wq)
            (fun i _ => N - (intOf i).toNat)
          case atStart => exact ⟨0, h, by omega, rfl, Lib.hid (by rw [manyF_zero]; exact hA.out), m4.out, mh4.out, mv4.out, Kept.refl _ _, b4.out⟩
          case round =>
            obtain ⟨t, h', htN, rfl, hA5, m5, mh5, mv5, k5, b5⟩ := hrel
            have s5 := b5.size
            have hlh := mh5.lt
            by_cases htl : t < N
            · obtain ⟨i, hi1, hi2, hi3, hi4⟩ := many_at hN.out htl
              obtain ⟨b', off', rfl, cc⟩ := hns.out t (by rw [hlen.out]; exact htl)
              have hz' : ((manyL f N).map Int.ofNat)[t]'(by rw [hlen.out]; exact htl) = (i : Int) := by
                rw [List.getElem?_eq_getElem (by rw [hlen.out]; exact htl)] at hi4
                exact Option.some.inj hi4
              rw [hz'] at cc
              clear hz' hi4
              have hb' := hlo.out _ rfl
              simp only at hb'
              have cc := (k5.cell (p := ⟨b', off' + t, none⟩) (cell_lt cc) (by show ¬ b' = H; omega)).trans cc
              have hbl := cell_lt cc
              simp only at hbl
              obtain ⟨g1, g2, g3, g4⟩ := hA5.out.free hi1 hi2
              have hA6 : Hid (Apart7 T (manyF f (t + 1)) (setB h' i true) v) := Lib.hid (by rw [hi3]; exact hA5.out.give hi1 hi2)
              have ch := mh5.cell (i := i) (by omega)
              have fh := mh5.frozen i
              have cv := mv5.cell (i := i) (by omega)
              rw [g3] at ch
              rw [g4] at cv
              clear g3 g4 hi2 hi3
              have m5 := Lib.hid m5
              have mh5 := Lib.hid mh5
              have mv5 := Lib.hid mv5
              have k5 := Lib.hid k5
              have b5 := Lib.hid b5
              go_wp2
              go_roundw
              case rel => exact ⟨t + 1, _, by omega, by go_num, hA6, Blk.far m5.out (by show ¬ B = H; omega) _, mh5.out.set i true, mv5.out.other _ (by show ¬ V = H; omega), k5.out.setCell (p := ⟨H, i, none⟩) rfl _, b5.out.setCell (by show w.heap.size ≤ H; omega) _⟩
              case measure => simp [intOf] <;> omega
            · obtain rfl : t = N := by omega
              have m5 := Lib.hid m5
              have mh5 := Lib.hid mh5
              have mv5 := Lib.hid mv5
              have b5 := Lib.hid b5
              clear k5
              go_wp2
              go_roundw
              case rel => exact ⟨k + 1, _, _, _, by omega, by go_num, hA5, m5.out, mh5.out, mv5.out, b5.out⟩
              case measure => simp [intOf] <;> omega
        · have b4 := Lib.hid (Kept.out b3.out k4 (fun q _ e => by omega) (by omega))
          have mh4 : Hid (Marked _ H 29 h) := Lib.hid (mh3.out.kept7 k4 (by show ¬ H = B; omega))
          have mv4 : Hid (Marked _ V 29 v) := Lib.hid (mv3.out.kept7 k4 (by show ¬ V = B; omega))
          have m4 := Lib.hid m4
          clear k4
          go_wp2
          go_roundw
          case rel => exact ⟨k + 1, f, h, v, by omega, by go_num, hA, m4.out, mh4.out, mv4.out, b4.out⟩
          case measure => simp [intOf] <;> omega
      by_cases hk1 : s = 1
      · subst hk1
        clear hk0
        obtain ⟨z, hzb, hmin⟩ : ∃ z : Int, (-9223372036854775808 ≤ z ∧ z ≤ 20) ∧ ∀ (ts : Array TypeId) (t : TypeId) (W : World), Sem.run Try.prog (Builtin.min_ ts t #[.int .i64 n, .int .i64 20]) W = .ok (.int .i64 z) W :=
          ⟨if (20 : Int) < n then 20 else n, by split <;> omega, fun ts t W => run_min_int2 (P := Try.prog) W ts t .i64 .i64 n 20⟩
        go_wp2_with fail
        clear hmin
        refine (Many_got B f _ _ m3.out (by unfold I64; omega)).mono ?_
        rintro e w3 (⟨N, ao3, cap3, hN, rfl, hns, hlo, m4, k4⟩ | ⟨ao3, cap3, rfl, m4, k4⟩)
        · have b4 := Lib.hid (Kept.out b3.out k4 (fun q _ e => by omega) (by omega))
          have s4 := k4.size
          have mh4 : Hid (Marked _ H 29 h) := Lib.hid (mh3.out.kept7 k4 (by show ¬ H = B; omega))
          have mv4 : Hid (Marked _ V 29 v) := Lib.hid (mv3.out.kept7 k4 (by show ¬ V = B; omega))
          have m4 := Lib.hid m4
          have hlen : ((manyL f N).map Int.ofNat).length = N := by rw [List.length_map, manyL_length]
          have hNc : N ≤ 1024 := by have := countN_le f; omega
          have hlen := Lib.hid hlen
          have hns := Lib.hid hns
          have hlo := Lib.hid hlo
          have hN := Lib.hid hN
          clear k4
          go_wp2
          go_loopw [64] (fun i wq => ∃ (t : Nat) (h' : Nat → Bool), t ≤ N ∧ i = .int .i64 t ∧ Hid (Apart7 T (manyF f t) h' v) ∧ MapAt wq B (manyF f N) ∧ Marked wq H 29 h' ∧ Marked wq V 29 v ∧ Kept (fun k => k = H) w3 wq ∧ Below w.heap.size w wq)
            (fun i _ => N - (intOf i).toNat)
          case atStart => exact ⟨0, h, by omega, rfl, Lib.hid (by rw [manyF_zero]; exact hA.out), m4.out, mh4.out, mv4.out, Kept.refl _ _, b4.out⟩
          case round =>
            obtain ⟨t, h', htN, rfl, hA5, m5, mh5, mv5, k5, b5⟩ := hrel
            have s5 := b5.size
            have hlh := mh5.lt
            by_cases htl : t < N
            · obtain ⟨i, hi1, hi2, hi3, hi4⟩ := many_at hN.out htl
              obtain ⟨b', off', rfl, cc⟩ := hns.out t (by rw [hlen.out]; exact htl)
              have hz' : ((manyL f N).map Int.ofNat)[t]'(by rw [hlen.out]; exact htl) = (i : Int) := by
                rw [List.getElem?_eq_getElem (by rw [hlen.out]; exact htl)] at hi4
                exact Option.some.inj hi4
              rw [hz'] at cc
              clear hz' hi4
              have hb' := hlo.out _ rfl
              simp only at hb'
              have cc := (k5.cell (p := ⟨b', off' + t, none⟩) (cell_lt cc) (by show ¬ b' = H; omega)).trans cc
              have hbl := cell_lt cc
              simp only at hbl
              obtain ⟨g1, g2, g3, g4⟩ := hA5.out.free hi1 hi2
              have hA6 : Hid (Apart7 T (manyF f (t + 1)) (setB h' i true) v) := Lib.hid (by rw [hi3]; exact hA5.out.give hi1 hi2)
              have ch := mh5.cell (i := i) (by omega)
              have fh := mh5.frozen i
              have cv := mv5.cell (i := i) (by omega)
              rw [g3] at ch
              rw [g4] at cv
              clear g3 g4 hi2 hi3
              have m5 := Lib.hid m5
              have mh5 := Lib.hid mh5
              have mv5 := Lib.hid mv5
              have k5 := Lib.hid k5
              have b5 := Lib.hid b5
              go_wp2
              go_roundw
              case rel => exact ⟨t + 1, _, by omega, by go_num, hA6, Blk.far m5.out (by show ¬ B = H; omega) _, mh5.out.set i true, mv5.out.other _ (by show ¬ V = H; omega), k5.out.setCell (p := ⟨H, i, none⟩) rfl _, b5.out.setCell (by show w.heap.size ≤ H; omega) _⟩
              case measure => simp [intOf] <;> omega
            · obtain rfl : t = N := by omega
              have m5 := Lib.hid m5
              have mh5 := Lib.hid mh5
              have mv5 := Lib.hid mv5
              have b5 := Lib.hid b5
              clear k5
              go_wp2
              go_roundw
              case rel => exact ⟨k + 1, _, _, _, by omega, by go_num, hA5, m5.out, mh5.out, mv5.out, b5.out⟩
              case measure => simp [intOf] <;> omega
        · have b4 := Lib.hid (Kept.out b3.out k4 (fun q _ e => by omega) (by omega))
          have mh4 : Hid (Marked _ H 29 h) := Lib.hid (mh3.out.kept7 k4 (by show ¬ H = B; omega))
          have mv4 : Hid (Marked _ V 29 v) := Lib.hid (mv3.out.kept7 k4 (by show ¬ V = B; omega))
          have m4 := Lib.hid m4
          clear k4
          go_wp2
          go_roundw
          case rel => exact ⟨k + 1, f, h, v, by omega, by go_num, hA, m4.out, mh4.out, mv4.out, b4.out⟩
          case measure => simp [intOf] <;> omega
      by_cases hk2 : s = 2
      · subst hk2
        clear hk0 hk1
        obtain ⟨z, hzb, hmin⟩ : ∃ z : Int, (-9223372036854775808 ≤ z ∧ z ≤ 20) ∧ ∀ (ts : Array TypeId) (t : TypeId) (W : World), Sem.run Try.prog (Builtin.min_ ts t #[.int .i64 n, .int .i64 20]) W = .ok (.int .i64 z) W :=
          ⟨if (20 : Int) < n then 20 else n, by split <;> omega, fun ts t W => run_min_int2 (P := Try.prog) W ts t .i64 .i64 n 20⟩
        go_wp2_with fail
        clear hmin
        refine (Many_got B f _ _ m3.out (by unfold I64; omega)).mono ?_
        rintro e w3 (⟨N, ao3, cap3, hN, rfl, hns, hlo, m4, k4⟩ | ⟨ao3, cap3, rfl, m4, k4⟩)
        · have b4 := Lib.hid (Kept.out b3.out k4 (fun q _ e => by omega) (by omega))
          have s4 := k4.size
          have mh4 : Hid (Marked _ H 29 h) := Lib.hid (mh3.out.kept7 k4 (by show ¬ H = B; omega))
          have mv4 : Hid (Marked _ V 29 v) := Lib.hid (mv3.out.kept7 k4 (by show ¬ V = B; omega))
          have m4 := Lib.hid m4
          have hlen : ((manyL f N).map Int.ofNat).length = N := by rw [List.length_map, manyL_length]
          have hNc : N ≤ 1024 := by have := countN_le f; omega
          have hlen := Lib.hid hlen
          have hns := Lib.hid hns
          have hlo := Lib.hid hlo
          have hN := Lib.hid hN
          clear k4
          go_wp2
          go_loopw [64] (fun i wq => ∃ (t : Nat) (h' : Nat → Bool), t ≤ N ∧ i = .int .i64 t ∧ Hid (Apart7 T (manyF f t) h' v) ∧ MapAt wq B (manyF f N) ∧ Marked wq H 29 h' ∧ Marked wq V 29 v ∧ Kept (fun k => k = H) w3 wq ∧ Below w.heap.size w wq)
            (fun i _ => N - (intOf i).toNat)
          case atStart => exact ⟨0, h, by omega, rfl, Lib.hid (by rw [manyF_zero]; exact hA.out), m4.out, mh4.out, mv4.out, Kept.refl _ _, b4.out⟩
          case round =>
            obtain ⟨t, h', htN, rfl, hA5, m5, mh5, mv5, k5, b5⟩ := hrel
            have s5 := b5.size
            have hlh := mh5.lt
            by_cases htl : t < N
            · obtain ⟨i, hi1, hi2, hi3, hi4⟩ := many_at hN.out htl
              obtain ⟨b', off', rfl, cc⟩ := hns.out t (by rw [hlen.out]; exact htl)
              have hz' : ((manyL f N).map Int.ofNat)[t]'(by rw [hlen.out]; exact htl) = (i : Int) := by
                rw [List.getElem?_eq_getElem (by rw [hlen.out]; exact htl)] at hi4
                exact Option.some.inj hi4
              rw [hz'] at cc
              clear hz' hi4
              have hb' := hlo.out _ rfl
              simp only at hb'
              have cc := (k5.cell (p := ⟨b', off' + t, none⟩) (cell_lt cc) (by show ¬ b' = H; omega)).trans cc
              have hbl := cell_lt cc
              simp only at hbl
              obtain ⟨g1, g2, g3, g4⟩ := hA5.out.free hi1 hi2
              have hA6 : Hid (Apart7 T (manyF f (t + 1)) (setB h' i true) v) := Lib.hid (by rw [hi3]; exact hA5.out.give hi1 hi2)
              have ch := mh5.cell (i := i) (by omega)
              have fh := mh5.frozen i
              have cv := mv5.cell (i := i) (by omega)
              rw [g3] at ch
              rw [g4] at cv
              clear g3 g4 hi2 hi3
              have m5 := Lib.hid m5
              have mh5 := Lib.hid mh5
              have mv5 := Lib.hid mv5
              have k5 := Lib.hid k5
              have b5 := Lib.hid b5
              go_wp2
              go_roundw
              case rel => exact ⟨t + 1, _, by omega, by go_num, hA6, Blk.far m5.out (by show ¬ B = H; omega) _, mh5.out.set i true, mv5.out.other _ (by show ¬ V = H; omega), k5.out.setCell (p := ⟨H, i, none⟩) rfl _, b5.out.setCell (by show w.heap.size ≤ H; omega) _⟩
              case measure => simp [intOf] <;> omega
            · obtain rfl : t = N := by omega
              have m5 := Lib.hid m5
              have mh5 := Lib.hid mh5
              have mv5 := Lib.hid mv5
              have b5 := Lib.hid b5
              clear k5
              go_wp2
              go_roundw
              case rel => exact ⟨k + 1, _, _, _, by omega, by go_num, hA5, m5.out, mh5.out, mv5.out, b5.out⟩
              case measure => simp [intOf] <;> omega
        · have b4 := Lib.hid (Kept.out b3.out k4 (fun q _ e => by omega) (by omega))
          have mh4 : Hid (Marked _ H 29 h) := Lib.hid (mh3.out.kept7 k4 (by show ¬ H = B; omega))
          have mv4 : Hid (Marked _ V 29 v) := Lib.hid (mv3.out.kept7 k4 (by show ¬ V = B; omega))
          have m4 := Lib.hid m4
          clear k4
          go_wp2
          go_roundw
          case rel => exact ⟨k + 1, f, h, v, by omega, by go_num, hA, m4.out, mh4.out, mv4.out, b4.out⟩
          case measure => simp [intOf] <;> omega
      by_cases hk3 : s = 3
      · subst hk3
        clear hk0 hk1 hk2
        by_cases hin : 0 ≤ n ∧ n < 1024
        · obtain ⟨hn0, hn4⟩ := hin
          obtain ⟨m, rfl⟩ : ∃ m : Nat, n = m := ⟨n.toNat, by omega⟩
          have hm4 : m < 1024 := by omega
          by_cases hf2 : f m = 2
          · obtain ⟨e1, e2⟩ := turn_yes 1 hm4 hf2
            obtain ⟨g1, _, hA4, _⟩ := hA.out.back hm4 hf2
            have hA4 := Lib.hid hA4
            have e1 := Lib.hid e1
            have e2 := Lib.hid e2
            clear hf2
            go_wp2_with fail
            refine (Free_any B f _ _ m3.out (by unfold I64; omega)).mono ?_
            rintro e w3 ⟨rfl, m4, k4⟩
            rw [e1.out]
            rw [e2.out] at m4
            have q4 := Blk.kept q.out k4 (by show ¬ wr.heap.size = B; omega)
            have c40 : w3.cell? ⟨wr.heap.size, 0, none⟩ = some (.int .i64 3) := by rw [q4.cell]; rfl
            have c41 : w3.cell? ⟨wr.heap.size, 1, none⟩ = some (.int .i64 (m : Int)) := by rw [q4.cell]; rfl
            have l4 := q4.lt
            have b4 := Lib.hid (Kept.out b3.out k4 (fun q _ e => by omega) (by omega))
            have mh4 : Marked _ H 29 h := mh3.out.kept7 k4 (by show ¬ H = B; omega)
            have mv4 : Marked _ V 29 v := mv3.out.kept7 k4 (by show ¬ V = B; omega)
            have ch := mh4.cell (i := m) (by omega)
            have fh := mh4.frozen m
            have hlh := mh4.lt
            have mh4 : Hid (Marked _ H 29 h) := Lib.hid mh4
            have mv4 : Hid (Marked _ V 29 v) := Lib.hid mv4
            have m4 := Lib.hid m4
            clear q4 k4
            rw [g1] at ch
            go_wp2
            go_roundw
            case rel => exact ⟨k + 1, _, _, _, by omega, by go_num, hA4, Blk.far m4.out (by show ¬ B = H; omega) _, mh4.out.set m false, mv4.out.other _ (by show ¬ V = H; omega), b4.out.setCell (by show w.heap.size ≤ H; omega) _⟩
            case measure => simp [intOf] <;> omega
          · obtain ⟨e1, e2⟩ := turn_no (f := f) (i := (m : Int)) (a := 2) 1 (by rw [canTurn_nat f hm4]; simp [hf2])
            obtain ⟨g1, g2⟩ := hA.out.not hm4 hf2
            have hA4 : Hid (Apart7 T f (setB h m false) v) := Lib.hid (by rw [g2]; exact hA.out)
            have e1 := Lib.hid e1
            have e2 := Lib.hid e2
            clear hf2 g2
            go_wp2_with fail
            refine (Free_any B f _ _ m3.out (by unfold I64; omega)).mono ?_
            rintro e w3 ⟨rfl, m4, k4⟩
            rw [e1.out]
            rw [e2.out] at m4
            have q4 := Blk.kept q.out k4 (by show ¬ wr.heap.size = B; omega)
            have c40 : w3.cell? ⟨wr.heap.size, 0, none⟩ = some (.int .i64 3) := by rw [q4.cell]; rfl
            have c41 : w3.cell? ⟨wr.heap.size, 1, none⟩ = some (.int .i64 (m : Int)) := by rw [q4.cell]; rfl
            have l4 := q4.lt
            have b4 := Lib.hid (Kept.out b3.out k4 (fun q _ e => by omega) (by omega))
            have mh4 : Marked _ H 29 h := mh3.out.kept7 k4 (by show ¬ H = B; omega)
            have mv4 : Marked _ V 29 v := mv3.out.kept7 k4 (by show ¬ V = B; omega)
            have ch := mh4.cell (i := m) (by omega)
            have fh := mh4.frozen m
            have hlh := mh4.lt
            have mh4 : Hid (Marked _ H 29 h) := Lib.hid mh4
            have mv4 : Hid (Marked _ V 29 v) := Lib.hid mv4
            have m4 := Lib.hid m4
            clear q4 k4
            rw [g1] at ch
            go_wp2
            go_roundw
            case rel => exact ⟨k + 1, _, _, _, by omega, by go_num, hA4, Blk.far m4.out (by show ¬ B = H; omega) _, mh4.out.set m false, mv4.out.other _ (by show ¬ V = H; omega), b4.out.setCell (by show w.heap.size ≤ H; omega) _⟩
            case measure => simp [intOf] <;> omega
        · by_cases hn0 : n < 0
          · go_wp2
            go_roundw
            case rel => exact ⟨k + 1, f, h, v, by omega, by go_num, hA, m3.out, mh3.out, mv3.out, b3.out⟩
            case measure => simp [intOf] <;> omega
          · have hn4 : 1024 ≤ n := by omega
            clear hin
            go_wp2
            go_roundw
            case rel => exact ⟨k + 1, f, h, v, by omega, by go_num, hA, m3.out, mh3.out, mv3.out, b3.out⟩
            case measure => simp [intOf] <;> omega
      by_cases hk4 : s = 4
      · subst hk4
        clear hk0 hk1 hk2 hk3
        by_cases hin : 0 ≤ n ∧ n < 1024
        · obtain ⟨hn0, hn4⟩ := hin
          obtain ⟨m, rfl⟩ : ∃ m : Nat, n = m := ⟨n.toNat, by omega⟩
          have hm4 : m < 1024 := by omega
          by_cases hf2 : f m = 2
          · obtain ⟨e1, e2⟩ := turn_yes 3 hm4 hf2
            obtain ⟨g1, g2, _, hA4⟩ := hA.out.back hm4 hf2
            have hA4 := Lib.hid hA4
            have e1 := Lib.hid e1
            have e2 := Lib.hid e2
            clear hf2
            go_wp2_with fail
            refine (Later_any B f _ _ m3.out (by unfold I64; omega)).mono ?_
            rintro e w3 ⟨rfl, m4, k4⟩
            rw [e1.out]
            rw [e2.out] at m4
            have q4 := Blk.kept q.out k4 (by show ¬ wr.heap.size = B; omega)
            have c40 : w3.cell? ⟨wr.heap.size, 0, none⟩ = some (.int .i64 4) := by rw [q4.cell]; rfl
            have c41 : w3.cell? ⟨wr.heap.size, 1, none⟩ = some (.int .i64 (m : Int)) := by rw [q4.cell]; rfl
            have l4 := q4.lt
            have b4 := Lib.hid (Kept.out b3.out k4 (fun q _ e => by omega) (by omega))
            have mh4 : Marked _ H 29 h := mh3.out.kept7 k4 (by show ¬ H = B; omega)
            have mv4 : Marked _ V 29 v := mv3.out.kept7 k4 (by show ¬ V = B; omega)
            have ch := mh4.cell (i := m) (by omega)
            have fh := mh4.frozen m
            have hlh := mh4.lt
            have mh4 : Hid (Marked _ H 29 h) := Lib.hid mh4
            have mv4 : Hid (Marked _ V 29 v) := Lib.hid mv4
            have m4 := Lib.hid m4
            clear q4 k4
            have cv := mv4.out.cell (i := m) (by omega)
            have fv := mv4.out.frozen m
            have hlv4 := mv4.out.lt
            rw [g2] at cv
            clear ch fh hlh
            go_wp2
            refine inO_region [(1, fun w' => w'.cell? ⟨wr.heap.size, 1, none⟩ = some (.int .i64 (m : Int))), (3, fun w' => w'.cell? ⟨wr.heap.size, 1, none⟩ = some (.int .i64 (m : Int))), (5, fun w' => w'.cell? ⟨V, m, none⟩ = some (.bool false))] (by kernel_rfl) (Owed.cons (c41) (Owed.cons (c41) (Owed.cons (cv) (Owed.nil _ _)))) ?_
            refine inO_take 0 ⟨_, _, _, _, _, _⟩ (.pointer (some ⟨wr.heap.size, 1, none⟩)) rfl (by kernel_rfl) (by kernel_rfl) (by kernel_rfl) (fun _ _ _ h => h) rfl (fun ww => by go_simp) ?_
            simp only [Act.put, List.setIfInBounds_toArray, List.set_cons_zero, List.set_cons_succ]
            refine inO_load 1 ⟨_, _, _, _, _, _⟩ (.int .i64 (m : Int)) (fun w' => w'.cell? ⟨wr.heap.size, 1, none⟩ = some (.int .i64 (m : Int))) rfl (by kernel_rfl) (by kernel_rfl) (by kernel_rfl) (fun _ _ _ h => h) rfl (.head _) (fun ww hw => by go_simp) ?_
            simp only [Act.put, List.setIfInBounds_toArray, List.set_cons_zero, List.set_cons_succ]
            refine inO_take 2 ⟨_, _, _, _, _, _⟩ (.pointer (some ⟨wr.heap.size, 1, none⟩)) rfl (by kernel_rfl) (by kernel_rfl) (by kernel_rfl) (fun _ _ _ h => h) rfl (fun ww => by go_simp) ?_
            simp only [Act.put, List.setIfInBounds_toArray, List.set_cons_zero, List.set_cons_succ]
            refine inO_load 3 ⟨_, _, _, _, _, _⟩ (.int .i64 (m : Int)) (fun w' => w'.cell? ⟨wr.heap.size, 1, none⟩ = some (.int .i64 (m : Int))) rfl (by kernel_rfl) (by kernel_rfl) (by kernel_rfl) (fun _ _ _ h => h) rfl (.tail _ (.head _)) (fun ww hw => by go_simp) ?_
            simp only [Act.put, List.setIfInBounds_toArray, List.set_cons_zero, List.set_cons_succ]
            refine inO_take 4 ⟨_, _, _, _, _, _⟩ (.pointer (some ⟨V, m, none⟩)) rfl (by kernel_rfl) (by kernel_rfl) (by kernel_rfl) (fun _ _ _ h => h) rfl (fun ww => by go_simp; intro hh; omega) ?_
            simp only [Act.put, List.setIfInBounds_toArray, List.set_cons_zero, List.set_cons_succ]
            refine inO_load 5 ⟨_, _, _, _, _, _⟩ (.bool false) (fun w' => w'.cell? ⟨V, m, none⟩ = some (.bool false)) rfl (by kernel_rfl) (by kernel_rfl) (by kernel_rfl) (fun _ _ _ h => h) rfl (.tail _ (.tail _ (.head _))) (fun ww hw => by go_simp) ?_
            simp only [Act.put, List.setIfInBounds_toArray, List.set_cons_zero, List.set_cons_succ]
            refine inO_take 6 ⟨_, _, _, _, _, _⟩ (.bool false) rfl (by kernel_rfl) (by kernel_rfl) (by kernel_rfl) (fun _ _ _ h => h) rfl (fun ww => exec_move (by rfl) (by rfl) ww) ?_
            simp only [Act.put, List.setIfInBounds_toArray, List.set_cons_zero, List.set_cons_succ]
            refine inO_take 7 ⟨_, _, _, _, _, _⟩ (.int .i64 0) rfl (by kernel_rfl) (by kernel_rfl) (by kernel_rfl) (fun _ _ _ h => h) rfl (fun ww => exec_move (by rfl) (by rfl) ww) ?_
            simp only [Act.put, List.setIfInBounds_toArray, List.set_cons_zero, List.set_cons_succ]
            refine inO_take 8 ⟨_, _, _, _, _, _⟩ (.bool true) rfl (by kernel_rfl) (by kernel_rfl) (by kernel_rfl) (fun _ _ _ h => h) rfl (fun ww => by go_simp) ?_
            simp only [Act.put, List.setIfInBounds_toArray, List.set_cons_zero, List.set_cons_succ]
            refine inO_take 9 ⟨_, _, _, _, _, _⟩ (.bool true) rfl (by kernel_rfl) (by kernel_rfl) (by kernel_rfl) (fun _ _ _ h => h) rfl (fun ww => by go_simp) ?_
            simp only [Act.put, List.setIfInBounds_toArray, List.set_cons_zero, List.set_cons_succ]
            refine inO_take 10 ⟨_, _, _, _, _, _⟩ (.pointer (some ⟨V, m, none⟩)) rfl (by kernel_rfl) (by kernel_rfl) (by kernel_rfl) (fun _ _ _ h => h) rfl (fun ww => by go_simp; intro hh; omega) ?_
            simp only [Act.put, List.setIfInBounds_toArray, List.set_cons_zero, List.set_cons_succ]
            refine inO_step 11 ⟨_, _, _, _, _, _⟩ rfl (by kernel_rfl) rfl (fun K hK => ?_)
            refine wp_store_cell 4 _ _ rfl ⟨V, m, none⟩ rfl (.bool true) (.bool false) rfl rfl (by kernel_rfl) cv fv ?_
            refine hK _ _ (Keeps.late (by kernel_rfl) (Keeps.late (by kernel_rfl) (Keeps.late (by kernel_rfl) (Keeps.nil _ _ _)))) ?_
            clear hK K
            simp only [Act.put]
            refine inO_done (by kernel_rfl) ?_
            obtain ⟨w4, hw4⟩ : ∃ w4, w4 = w3.drew.setCell ⟨V, m, none⟩ (.bool true) := ⟨_, rfl⟩
            rw [← hw4]
            have k5 : Kept (· = V) w3 w4 := by rw [hw4]; exact ((Kept.refl (· = V) w3).drew).setCell (p := ⟨V, m, none⟩) rfl _
            have mv5 : Hid (Marked w4 V 29 (setB v m true)) := Lib.hid (by rw [hw4]; exact Marked.set (w := w3.drew) mv4.out m true)
            clear hw4
            have c41 := (k5.cell (p := ⟨wr.heap.size, 1, none⟩) l4 (by show ¬ wr.heap.size = V; omega)).trans c41
            have c40 := (k5.cell (p := ⟨wr.heap.size, 0, none⟩) l4 (by show ¬ wr.heap.size = V; omega)).trans c40
            have mh5 : Marked w4 H 29 h := mh4.out.kept7 k5 (by show ¬ H = V; omega)
            have ch := mh5.cell (i := m) (by omega)
            have fh := mh5.frozen m
            have hlh := mh5.lt
            rw [g1] at ch
            have mh5 : Hid (Marked w4 H 29 h) := Lib.hid mh5
            have m5 : Hid (MapAt w4 B _) := Lib.hid (m4.out.kept k5 (by show ¬ B = V; omega))
            have b5 := Lib.hid (Kept.out b4.out k5 (fun q _ e => by omega) (by have := b4.out.size; omega))
            clear k5 cv fv mh4 mv4 m4 b4
            go_wp2
            go_roundw
            case rel => exact ⟨k + 1, _, _, _, by omega, by go_num, hA4, Blk.far m5.out (by show ¬ B = H; omega) _, mh5.out.set m false, mv5.out.other _ (by show ¬ V = H; omega), b5.out.setCell (by show w.heap.size ≤ H; omega) _⟩
            case measure => simp [intOf] <;> omega
          · obtain ⟨e1, e2⟩ := turn_no (f := f) (i := (m : Int)) (a := 2) 3 (by rw [canTurn_nat f hm4]; simp [hf2])
            obtain ⟨g1, g2⟩ := hA.out.not hm4 hf2
            have hA4 : Hid (Apart7 T f (setB h m false) v) := Lib.hid (by rw [g2]; exact hA.out)
            have e1 := Lib.hid e1
            have e2 := Lib.hid e2
            clear hf2 g2
            go_wp2_with fail
            refine (Later_any B f _ _ m3.out (by unfold I64; omega)).mono ?_
            rintro e w3 ⟨rfl, m4, k4⟩
            rw [e1.out]
            rw [e2.out] at m4
            have q4 := Blk.kept q.out k4 (by show ¬ wr.heap.size = B; omega)
            have c40 : w3.cell? ⟨wr.heap.size, 0, none⟩ = some (.int .i64 4) := by rw [q4.cell]; rfl
            have c41 : w3.cell? ⟨wr.heap.size, 1, none⟩ = some (.int .i64 (m : Int)) := by rw [q4.cell]; rfl
            have l4 := q4.lt
            have b4 := Lib.hid (Kept.out b3.out k4 (fun q _ e => by omega) (by omega))
            have mh4 : Marked _ H 29 h := mh3.out.kept7 k4 (by show ¬ H = B; omega)
            have mv4 : Marked _ V 29 v := mv3.out.kept7 k4 (by show ¬ V = B; omega)
            have ch := mh4.cell (i := m) (by omega)
            have fh := mh4.frozen m
            have hlh := mh4.lt
            have mh4 : Hid (Marked _ H 29 h) := Lib.hid mh4
            have mv4 : Hid (Marked _ V 29 v) := Lib.hid mv4
            have m4 := Lib.hid m4
            clear q4 k4
            have cv := mv4.out.cell (i := m) (by omega)
            have fv := mv4.out.frozen m
            have hlv4 := mv4.out.lt
            clear ch fh hlh
            go_wp2
            cases hvm : v m
            · rw [hvm] at cv
              have hA5 : Hid (Apart7 T f (setB h m false) (setB v m false)) := Lib.hid (by rw [setB_same hvm]; exact hA4.out)
              clear hvm
              refine inO_region [(1, fun w' => w'.cell? ⟨wr.heap.size, 1, none⟩ = some (.int .i64 (m : Int))), (3, fun w' => w'.cell? ⟨wr.heap.size, 1, none⟩ = some (.int .i64 (m : Int))), (5, fun w' => w'.cell? ⟨V, m, none⟩ = some (.bool false))] (by kernel_rfl) (Owed.cons (c41) (Owed.cons (c41) (Owed.cons (cv) (Owed.nil _ _)))) ?_
              refine inO_take 0 ⟨_, _, _, _, _, _⟩ (.pointer (some ⟨wr.heap.size, 1, none⟩)) rfl (by kernel_rfl) (by kernel_rfl) (by kernel_rfl) (fun _ _ _ h => h) rfl (fun ww => by go_simp) ?_
              simp only [Act.put, List.setIfInBounds_toArray, List.set_cons_zero, List.set_cons_succ]
              refine inO_load 1 ⟨_, _, _, _, _, _⟩ (.int .i64 (m : Int)) (fun w' => w'.cell? ⟨wr.heap.size, 1, none⟩ = some (.int .i64 (m : Int))) rfl (by kernel_rfl) (by kernel_rfl) (by kernel_rfl) (fun _ _ _ h => h) rfl (.head _) (fun ww hw => by go_simp) ?_
              simp only [Act.put, List.setIfInBounds_toArray, List.set_cons_zero, List.set_cons_succ]
              refine inO_take 2 ⟨_, _, _, _, _, _⟩ (.pointer (some ⟨wr.heap.size, 1, none⟩)) rfl (by kernel_rfl) (by kernel_rfl) (by kernel_rfl) (fun _ _ _ h => h) rfl (fun ww => by go_simp) ?_
              simp only [Act.put, List.setIfInBounds_toArray, List.set_cons_zero, List.set_cons_succ]
              refine inO_load 3 ⟨_, _, _, _, _, _⟩ (.int .i64 (m : Int)) (fun w' => w'.cell? ⟨wr.heap.size, 1, none⟩ = some (.int .i64 (m : Int))) rfl (by kernel_rfl) (by kernel_rfl) (by kernel_rfl) (fun _ _ _ h => h) rfl (.tail _ (.head _)) (fun ww hw => by go_simp) ?_
              simp only [Act.put, List.setIfInBounds_toArray, List.set_cons_zero, List.set_cons_succ]
              refine inO_take 4 ⟨_, _, _, _, _, _⟩ (.pointer (some ⟨V, m, none⟩)) rfl (by kernel_rfl) (by kernel_rfl) (by kernel_rfl) (fun _ _ _ h => h) rfl (fun ww => by go_simp; intro hh; omega) ?_
              simp only [Act.put, List.setIfInBounds_toArray, List.set_cons_zero, List.set_cons_succ]
              refine inO_load 5 ⟨_, _, _, _, _, _⟩ (.bool false) (fun w' => w'.cell? ⟨V, m, none⟩ = some (.bool false)) rfl (by kernel_rfl) (by kernel_rfl) (by kernel_rfl) (fun _ _ _ h => h) rfl (.tail _ (.tail _ (.head _))) (fun ww hw => by go_simp) ?_
              simp only [Act.put, List.setIfInBounds_toArray, List.set_cons_zero, List.set_cons_succ]
              refine inO_take 6 ⟨_, _, _, _, _, _⟩ (.bool false) rfl (by kernel_rfl) (by kernel_rfl) (by kernel_rfl) (fun _ _ _ h => h) rfl (fun ww => exec_move (by rfl) (by rfl) ww) ?_
              simp only [Act.put, List.setIfInBounds_toArray, List.set_cons_zero, List.set_cons_succ]
              refine inO_take 7 ⟨_, _, _, _, _, _⟩ (.int .i64 72) rfl (by kernel_rfl) (by kernel_rfl) (by kernel_rfl) (fun _ _ _ h => h) rfl (fun ww => exec_move (by rfl) (by rfl) ww) ?_
              simp only [Act.put, List.setIfInBounds_toArray, List.set_cons_zero, List.set_cons_succ]
              refine inO_take 8 ⟨_, _, _, _, _, _⟩ (.bool false) rfl (by kernel_rfl) (by kernel_rfl) (by kernel_rfl) (fun _ _ _ h => h) rfl (fun ww => by go_simp) ?_
              simp only [Act.put, List.setIfInBounds_toArray, List.set_cons_zero, List.set_cons_succ]
              refine inO_take 9 ⟨_, _, _, _, _, _⟩ (.bool false) rfl (by kernel_rfl) (by kernel_rfl) (by kernel_rfl) (fun _ _ _ h => h) rfl (fun ww => by go_simp) ?_
              simp only [Act.put, List.setIfInBounds_toArray, List.set_cons_zero, List.set_cons_succ]
              refine inO_take 10 ⟨_, _, _, _, _, _⟩ (.pointer (some ⟨V, m, none⟩)) rfl (by kernel_rfl) (by kernel_rfl) (by kernel_rfl) (fun _ _ _ h => h) rfl (fun ww => by go_simp; intro hh; omega) ?_
              simp only [Act.put, List.setIfInBounds_toArray, List.set_cons_zero, List.set_cons_succ]
              refine inO_step 11 ⟨_, _, _, _, _, _⟩ rfl (by kernel_rfl) rfl (fun K hK => ?_)
              refine wp_store_cell 4 _ _ rfl ⟨V, m, none⟩ rfl (.bool false) (.bool false) rfl rfl (by kernel_rfl) cv fv ?_
              refine hK _ _ (Keeps.late (by kernel_rfl) (Keeps.late (by kernel_rfl) (Keeps.late (by kernel_rfl) (Keeps.nil _ _ _)))) ?_
              clear hK K
              simp only [Act.put]
              refine inO_done (by kernel_rfl) ?_
              obtain ⟨w4, hw4⟩ : ∃ w4, w4 = w3.drew.setCell ⟨V, m, none⟩ (.bool false) := ⟨_, rfl⟩
              rw [← hw4]
              have k5 : Kept (· = V) w3 w4 := by rw [hw4]; exact ((Kept.refl (· = V) w3).drew).setCell (p := ⟨V, m, none⟩) rfl _
              have mv5 : Hid (Marked w4 V 29 (setB v m false)) := Lib.hid (by rw [hw4]; exact Marked.set (w := w3.drew) mv4.out m false)
              clear hw4
              have c41 := (k5.cell (p := ⟨wr.heap.size, 1, none⟩) l4 (by show ¬ wr.heap.size = V; omega)).trans c41
              have c40 := (k5.cell (p := ⟨wr.heap.size, 0, none⟩) l4 (by show ¬ wr.heap.size = V; omega)).trans c40
              have mh5 : Marked w4 H 29 h := mh4.out.kept7 k5 (by show ¬ H = V; omega)
              have ch := mh5.cell (i := m) (by omega)
              have fh := mh5.frozen m
              have hlh := mh5.lt
              rw [g1] at ch
              have mh5 : Hid (Marked w4 H 29 h) := Lib.hid mh5
              have m5 : Hid (MapAt w4 B _) := Lib.hid (m4.out.kept k5 (by show ¬ B = V; omega))
              have b5 := Lib.hid (Kept.out b4.out k5 (fun q _ e => by omega) (by have := b4.out.size; omega))
              clear k5 cv fv mh4 mv4 m4 b4
              go_wp2
              go_roundw
              case rel => exact ⟨k + 1, _, _, _, by omega, by go_num, hA5, Blk.far m5.out (by show ¬ B = H; omega) _, mh5.out.set m false, mv5.out.other _ (by show ¬ V = H; omega), b5.out.setCell (by show w.heap.size ≤ H; omega) _⟩
              case measure => simp [intOf] <;> omega
            · rw [hvm] at cv
              have hA5 : Hid (Apart7 T f (setB h m false) (setB v m true)) := Lib.hid (by rw [setB_same hvm]; exact hA4.out)
              clear hvm
              refine inO_region [(1, fun w' => w'.cell? ⟨wr.heap.size, 1, none⟩ = some (.int .i64 (m : Int))), (3, fun w' => w'.cell? ⟨wr.heap.size, 1, none⟩ = some (.int .i64 (m : Int))), (5, fun w' => w'.cell? ⟨V, m, none⟩ = some (.bool true))] (by kernel_rfl) (Owed.cons (c41) (Owed.cons (c41) (Owed.cons (cv) (Owed.nil _ _)))) ?_
              refine inO_take 0 ⟨_, _, _, _, _, _⟩ (.pointer (some ⟨wr.heap.size, 1, none⟩)) rfl (by kernel_rfl) (by kernel_rfl) (by kernel_rfl) (fun _ _ _ h => h) rfl (fun ww => by go_simp) ?_
              simp only [Act.put, List.setIfInBounds_toArray, List.set_cons_zero, List.set_cons_succ]
              refine inO_load 1 ⟨_, _, _, _, _, _⟩ (.int .i64 (m : Int)) (fun w' => w'.cell? ⟨wr.heap.size, 1, none⟩ = some (.int .i64 (m : Int))) rfl (by kernel_rfl) (by kernel_rfl) (by kernel_rfl) (fun _ _ _ h => h) rfl (.head _) (fun ww hw => by go_simp) ?_
              simp only [Act.put, List.setIfInBounds_toArray, List.set_cons_zero, List.set_cons_succ]
              refine inO_take 2 ⟨_, _, _, _, _, _⟩ (.pointer (some ⟨wr.heap.size, 1, none⟩)) rfl (by kernel_rfl) (by kernel_rfl) (by kernel_rfl) (fun _ _ _ h => h) rfl (fun ww => by go_simp) ?_
              simp only [Act.put, List.setIfInBounds_toArray, List.set_cons_zero, List.set_cons_succ]
              refine inO_load 3 ⟨_, _, _, _, _, _⟩ (.int .i64 (m : Int)) (fun w' => w'.cell? ⟨wr.heap.size, 1, none⟩ = some (.int .i64 (m : Int))) rfl (by kernel_rfl) (by kernel_rfl) (by kernel_rfl) (fun _ _ _ h => h) rfl (.tail _ (.head _)) (fun ww hw => by go_simp) ?_
              simp only [Act.put, List.setIfInBounds_toArray, List.set_cons_zero, List.set_cons_succ]
              refine inO_take 4 ⟨_, _, _, _, _, _⟩ (.pointer (some ⟨V, m, none⟩)) rfl (by kernel_rfl) (by kernel_rfl) (by kernel_rfl) (fun _ _ _ h => h) rfl (fun ww => by go_simp; intro hh; omega) ?_
              simp only [Act.put, List.setIfInBounds_toArray, List.set_cons_zero, List.set_cons_succ]
              refine inO_load 5 ⟨_, _, _, _, _, _⟩ (.bool true) (fun w' => w'.cell? ⟨V, m, none⟩ = some (.bool true)) rfl (by kernel_rfl) (by kernel_rfl) (by kernel_rfl) (fun _ _ _ h => h) rfl (.tail _ (.tail _ (.head _))) (fun ww hw => by go_simp) ?_
              simp only [Act.put, List.setIfInBounds_toArray, List.set_cons_zero, List.set_cons_succ]
              refine inO_take 6 ⟨_, _, _, _, _, _⟩ (.bool true) rfl (by kernel_rfl) (by kernel_rfl) (by kernel_rfl) (fun _ _ _ h => h) rfl (fun ww => exec_move (by rfl) (by rfl) ww) ?_
              simp only [Act.put, List.setIfInBounds_toArray, List.set_cons_zero, List.set_cons_succ]
              refine inO_pass 7 ⟨_, _, _, _, _, _⟩ rfl (by kernel_rfl) (by kernel_rfl) (by kernel_rfl) (fun _ _ _ h => h) rfl ?_
              simp only [Act.put, List.setIfInBounds_toArray, List.set_cons_zero, List.set_cons_succ]
              refine inO_pass 8 ⟨_, _, _, _, _, _⟩ rfl (by kernel_rfl) (by kernel_rfl) (by kernel_rfl) (fun _ _ _ h => h) rfl ?_
              simp only [Act.put, List.setIfInBounds_toArray, List.set_cons_zero, List.set_cons_succ]
              refine inO_take 9 ⟨_, _, _, _, _, _⟩ (.bool true) rfl (by kernel_rfl) (by kernel_rfl) (by kernel_rfl) (fun _ _ _ h => h) rfl (fun ww => by go_simp) ?_
              simp only [Act.put, List.setIfInBounds_toArray, List.set_cons_zero, List.set_cons_succ]
              refine inO_take 10 ⟨_, _, _, _, _, _⟩ (.pointer (some ⟨V, m, none⟩)) rfl (by kernel_rfl) (by kernel_rfl) (by kernel_rfl) (fun _ _ _ h => h) rfl (fun ww => by go_simp; intro hh; omega) ?_
              simp only [Act.put, List.setIfInBounds_toArray, List.set_cons_zero, List.set_cons_succ]
              refine inO_step 11 ⟨_, _, _, _, _, _⟩ rfl (by kernel_rfl) rfl (fun K hK => ?_)
              refine wp_store_cell 4 _ _ rfl ⟨V, m, none⟩ rfl (.bool true) (.bool true) rfl rfl (by kernel_rfl) cv fv ?_
              refine hK _ _ (Keeps.late (by kernel_rfl) (Keeps.late (by kernel_rfl) (Keeps.late (by kernel_rfl) (Keeps.nil _ _ _)))) ?_
              clear hK K
              simp only [Act.put]
              refine inO_done (by kernel_rfl) ?_
              obtain ⟨w4, hw4⟩ : ∃ w4, w4 = w3.drew.setCell ⟨V, m, none⟩ (.bool true) := ⟨_, rfl⟩
              rw [← hw4]
              have k5 : Kept (· = V) w3 w4 := by rw [hw4]; exact ((Kept.refl (· = V) w3).drew).setCell (p := ⟨V, m, none⟩) rfl _
              have mv5 : Hid (Marked w4 V 29 (setB v m true)) := Lib.hid (by rw [hw4]; exact Marked.set (w := w3.drew) mv4.out m true)
              clear hw4
              have c41 := (k5.cell (p := ⟨wr.heap.size, 1, none⟩) l4 (by show ¬ wr.heap.size = V; omega)).trans c41
              have c40 := (k5.cell (p := ⟨wr.heap.size, 0, none⟩) l4 (by show ¬ wr.heap.size = V; omega)).trans c40
              have mh5 : Marked w4 H 29 h := mh4.out.kept7 k5 (by show ¬ H = V; omega)
              have ch := mh5.cell (i := m) (by omega)
              have fh := mh5.frozen m
              have hlh := mh5.lt
              rw [g1] at ch
              have mh5 : Hid (Marked w4 H 29 h) := Lib.hid mh5
              have m5 : Hid (MapAt w4 B _) := Lib.hid (m4.out.kept k5 (by show ¬ B = V; omega))
              have b5 := Lib.hid (Kept.out b4.out k5 (fun q _ e => by omega) (by have := b4.out.size; omega))
              clear k5 cv fv mh4 mv4 m4 b4
              go_wp2
              go_roundw
              case rel => exact ⟨k + 1, _, _, _, by omega, by go_num, hA5, Blk.far m5.out (by show ¬ B = H; omega) _, mh5.out.set m false, mv5.out.other _ (by show ¬ V = H; omega), b5.out.setCell (by show w.heap.size ≤ H; omega) _⟩
              case measure => simp [intOf] <;> omega
        · by_cases hn0 : n < 0
          · go_wp2
            go_roundw
            case rel => exact ⟨k + 1, f, h, v, by omega, by go_num, hA, m3.out, mh3.out, mv3.out, b3.out⟩
            case measure => simp [intOf] <;> omega
          · have hn4 : 1024 ≤ n := by omega
            clear hin
            go_wp2
            go_roundw
            case rel => exact ⟨k + 1, f, h, v, by omega, by go_num, hA, m3.out, mh3.out, mv3.out, b3.out⟩
            case measure => simp [intOf] <;> omega
      by_cases hk5 : s = 5
      · subst hk5
        clear hk0 hk1 hk2 hk3 hk4
        have hA4 := Lib.hid hA.out.commit
        go_wp2_with fail
        refine (Commit_any B f _ m3.out).mono ?_
        rintro e w3 ⟨rfl, m4, k4⟩
        have b4 := Lib.hid (Kept.out b3.out k4 (fun q _ e => by omega) (by omega))
        have mh4 : Hid (Marked _ H 29 h) := Lib.hid (mh3.out.kept7 k4 (by show ¬ H = B; omega))
        have mv4 : Marked _ V 29 v := mv3.out.kept7 k4 (by show ¬ V = B; omega)
        have hsb := store_bools (P := Try.prog) mv4 (fun _ => false)
        have mv4 : Hid (Marked _ V 29 (fun _ => false)) := Lib.hid (mv4.setRow (fun _ => false))
        have m4 := Lib.hid m4
        clear k4
        go_wp2
        go_roundw
        case rel => exact ⟨k + 1, _, _, _, by omega, by go_num, hA4, Blk.kept m4.out (Kept.of_setRow (F := (· = V)) w3 rfl _) (by show ¬ B = V; omega), mh4.out.kept7 (Kept.of_setRow (F := (· = V)) w3 rfl _) (by show ¬ H = V; omega), mv4.out, below_setRow' b4.out V _ (by omega)⟩
        case measure => simp [intOf] <;> omega
      · have e0 : (s == 0) = false := by simp; omega
        have e1 : (s == 1) = false := by simp; omega
        have e2 : (s == 2) = false := by simp; omega
        have e3 : (s == 3) = false := by simp; omega
        have e4 : (s == 4) = false := by simp; omega
        have e5 : (s == 5) = false := by simp; omega
        clear hk0 hk1 hk2 hk3 hk4 hk5
        go_wp2
        go_roundw
        case rel => exact ⟨k + 1, f, h, v, by omega, by go_num, hA, m3.out, mh3.out, mv3.out, b3.out⟩
        case measure => simp [intOf] <;> omega
    · obtain rfl : k = xs.length := by omega
      have hsets := Lib.hid hA.out.sets
      have hcnt := Lib.hid (hA.out.count (by omega))
      have hfh := Lib.hid (runs_fits h)
      have hfv := Lib.hid (runs_fits v)
      have hm : Hid (MapAt wr B f) := Lib.hid hm
      have hmh : Hid (Marked wr H 29 h) := Lib.hid hmh
      have hmv : Hid (Marked wr V 29 v) := Lib.hid hmv
      have hb := Lib.hid hb
      have setH := Lib.hid fun W => refSet_spans h W
      have setV := Lib.hid fun W => refSet_spans v W
      go_upto_region 39 with (fail)
      go_cut [15, 16] from 137 to 140 (fun x y wx => ∃ aH cH aV cV, x = .slice aH (runs h 4096).length cH ∧ y = .slice aV (runs v 4096).length cV ∧ Spans wx aH (runs h 4096) ∧ Spans wx aV (runs v 4096) ∧ MapAt wx B f ∧ Below w.heap.size w wx)
      case first =>
        refine inO_region [(0, fun w' => Marked w' H 29 h), (2, fun w' => Marked w' V 29 v)] (by kernel_rfl) (Owed.cons hmh.out (Owed.cons hmv.out (Owed.nil _ _))) ?_
        refine inO_load 0 ⟨_, _, _, _, _, _⟩ (.agg (bools h)) (fun w' => Marked w' H 29 h) rfl (by kernel_rfl) (by kernel_rfl) (by kernel_rfl) (fun _ _ _ h => h) rfl (.head _) (fun ww hw => exec_load_arr _ _ (by rfl) _ (by rfl) _ _ _ hw Try.underlying29 rfl (info_bools _)) ?_
        simp only [Act.put, List.setIfInBounds_toArray, List.set_cons_zero, List.set_cons_succ]
        refine inO_load 2 ⟨_, _, _, _, _, _⟩ (.agg (bools v)) (fun w' => Marked w' V 29 v) rfl (by kernel_rfl) (by kernel_rfl) (by kernel_rfl) (fun _ _ _ h => h) rfl (.tail _ (.head _)) (fun ww hw => exec_load_arr _ _ (by rfl) _ (by rfl) _ _ _ hw Try.underlying29 rfl (info_bools _)) ?_
        simp only [Act.put, List.setIfInBounds_toArray, List.set_cons_zero, List.set_cons_succ]
        refine inO_step 1 ⟨_, _, _, _, _, _⟩ rfl (by kernel_rfl) rfl (fun K hK => ?_)
        refine wp_call Try.func16 (by kernel_rfl) rfl _ _ rfl _ rfl _ (setH.out _) fun e wH hq => ?_
        obtain ⟨aH, cH, rfl, tH, bH⟩ := hq
        refine ⟨_, rfl, ?_⟩
        refine hK _ _ (Keeps.cons (fun hh => Marked.below hh bH (Marked.lt hh)) (Keeps.cons (fun hh => Marked.below hh bH (Marked.lt hh)) (Keeps.nil _ _ _))) ?_
        clear hK K
        simp only [Act.put, List.setIfInBounds_toArray, List.set_cons_zero, List.set_cons_succ]
        refine inO_step 3 ⟨_, _, _, _, _, _⟩ rfl (by kernel_rfl) rfl (fun K hK => ?_)
        refine wp_call Try.func16 (by kernel_rfl) rfl _ _ rfl _ rfl _ (setV.out _) fun e wV hq => ?_
        obtain ⟨aV, cV, rfl, tV, bV⟩ := hq
        refine ⟨_, rfl, ?_⟩
        refine hK _ _ (Keeps.cons (fun hh => Marked.below hh bV (Marked.lt hh)) (Keeps.cons (fun hh => Marked.below hh bV (Marked.lt hh)) (Keeps.nil _ _ _))) ?_
        clear hK K
        simp only [Act.put, List.setIfInBounds_toArray, List.set_cons_zero, List.set_cons_succ]
        refine inO_take 4 ⟨_, _, _, _, _, _⟩ (.slice aH (runs h 4096).length cH) rfl (by kernel_rfl) (by kernel_rfl) (by kernel_rfl) (fun _ _ _ h => h) rfl (fun ww => by go_simp) ?_
        simp only [Act.put, List.setIfInBounds_toArray, List.set_cons_zero, List.set_cons_succ]
        refine inO_take 5 ⟨_, _, _, _, _, _⟩ (.slice aV (runs v 4096).length cV) rfl (by kernel_rfl) (by kernel_rfl) (by kernel_rfl) (fun _ _ _ h => h) rfl (fun ww => by go_simp) ?_
        simp only [Act.put, List.setIfInBounds_toArray, List.set_cons_zero, List.set_cons_succ]
        refine inO_done (by kernel_rfl) ?_
        have bH : Below wr.heap.size wr wH := ⟨bH.os, bH.tape, bH.output, bH.size, bH.block⟩
        have s1 := bH.size
        have s2 := bV.size
        have hbx : Below wr.heap.size wr wV := (Below.trans (b := wH) bH (Below.mono bV s1))
        have mx := hm.out.below hbx hlm
        have bx := hb.out.trans (hbx.mono hbs0)
        have tH' := tH.below bV
        have mx := Lib.hid mx
        have bx := Lib.hid bx
        have u1 := Lib.hid tH'
        have u2 := Lib.hid tV
        clear hbx
        go_wp2_with fail
        go_meet
        exact ⟨_, _, _, _, rfl, rfl, u1.out, u2.out, mx.out, bx.out⟩
      case rest =>
        obtain ⟨aH, cH, aV, cV, rfl, rfl, tH, tV, mx, bx⟩ := hcut
        clear setH setV hm hmh hmv hb
        obtain ⟨L, hL⟩ : ∃ L, L = runs h 4096 := ⟨_, rfl⟩
        obtain ⟨M, hM⟩ : ∃ M, M = runs v 4096 := ⟨_, rfl⟩
        have hgL : Hid (Good L) := Lib.hid (by rw [hL]; exact right_good (runs_right h))
        have hgM : Hid (Good M) := Lib.hid (by rw [hM]; exact right_good (runs_right v))
        rw [← hL, ← hM] at hsets hcnt
        rw [← hL] at hfh tH ⊢
        rw [← hM] at hfv tV ⊢
        obtain ⟨c, hc⟩ : ∃ c, c = countN f := ⟨_, rfl⟩
        obtain ⟨n1, hn1⟩ : ∃ n, n = (numsL (maskS L) 4096).length := ⟨_, rfl⟩
        obtain ⟨n2, hn2⟩ : ∃ n, n = (numsL (maskS M) 4096).length := ⟨_, rfl⟩
        rw [← hc, ← hn1, ← hn2] at hcnt
        have l1 : n1 ≤ 4096 := by rw [hn1]; exact numsL_length _ _
        have l2' : n2 ≤ 4096 := by rw [hn2]; exact numsL_length _ _
        have l3 : c ≤ 1024 := by rw [hc]; exact countN_le f
        have hsum : ((n1 : Int) + (n2 : Int) + (c : Int) == (T : Int) - 4) = true := by have := hcnt.out; simp; omega
        have Hc := Lib.hid hc
        have Hn1 := Lib.hid hn1
        have Hn2 := Lib.hid hn2
        have sx := bx.size
        have lx := mx.lt
        have mx : Hid (MapAt wc B f) := Lib.hid mx
        have bx := Lib.hid bx
        have tH := Lib.hid tH
        have tV := Lib.hid tV
        clear hL hM hc hn1 hn2 hcnt
        go_wp2_with fail
        refine (Taken_set B f wc mx.out).mono ?_
        rintro e w5 ⟨a5, c5, rfl, t5, _, b5⟩
        rw [hsets.out.1] at t5 ⊢
        have s5 := b5.size
        have m5 : Hid (MapAt w5 B f) := Lib.hid (mx.out.below b5 lx)
        have tH := Lib.hid (tH.out.below b5)
        have tV := Lib.hid (tV.out.below b5)
        have b5 := Lib.hid (bx.out.trans (b5.mono (by omega)))
        have t5 := Lib.hid t5
        go_wp2_with fail
        refine (Same_any a5 aH c5 cH L L w5 t5.out tH.out hfh.out hfh.out).mono ?_
        rintro e w6 ⟨rfl, b6⟩
        rw [decide_eq_true rfl]
        have s6 := b6.size
        have m6 : Hid (MapAt w6 B f) := Lib.hid (m5.out.below b6 (by omega))
        have tH := Lib.hid (tH.out.below b6)
        have tV := Lib.hid (tV.out.below b6)
        have b6 := Lib.hid (b5.out.trans (b6.mono (by omega)))
        clear t5
        go_wp2_with fail
        refine (Waiting_set B f w6 m6.out).mono ?_
        rintro e w7 ⟨a7, c7, rfl, t7, _, b7⟩
        rw [hsets.out.2] at t7 ⊢
        have s7 := b7.size
        have m7 : Hid (MapAt w7 B f) := Lib.hid (m6.out.below b7 (by omega))
        have tH := Lib.hid (tH.out.below b7)
        have tV := Lib.hid (tV.out.below b7)
        have b7 := Lib.hid (b6.out.trans (b7.mono (by omega)))
        have t7 := Lib.hid t7
        go_wp2_with fail
        refine (Same_any a7 aV c7 cV M M w7 t7.out tV.out hfv.out hfv.out).mono ?_
        rintro e w8 ⟨rfl, b8⟩
        rw [decide_eq_true rfl]
        have s8 := b8.size
        have m8 : Hid (MapAt w8 B f) := Lib.hid (m7.out.below b8 (by omega))
        have tH := Lib.hid (tH.out.below b8)
        have tV := Lib.hid (tV.out.below b8)
        have b8 := Lib.hid (b7.out.trans (b8.mono (by omega)))
        clear t7
        go_wp2_with fail
        refine (refList_any aH cH L w8 tH.out hfh.out hgL.out).mono ?_
        rintro e w9 ⟨v9, rfl, o9, b9⟩
        obtain ⟨a9, c9, rfl, _⟩ := o9.nums
        rw [← Hn1.out]
        have s9 := b9.size
        have m9 : Hid (MapAt w9 B f) := Lib.hid (m8.out.below b9 (by omega))
        have tV := Lib.hid (tV.out.below b9)
        have b9 := Lib.hid (b8.out.trans (b9.mono (by omega)))
        clear o9
        go_wp2_with fail
        refine (refList_any aV cV M w9 tV.out hfv.out hgM.out).mono ?_
        rintro e w10 ⟨v10, rfl, o10, b10⟩
        obtain ⟨a10, c10, rfl, _⟩ := o10.nums
        rw [← Hn2.out]
        have s10 := b10.size
        have m10 : Hid (MapAt w10 B f) := Lib.hid (m9.out.below b10 (by omega))
        have b10 := Lib.hid (b9.out.trans (b10.mono (by omega)))
        clear o10
        go_wp2_with fail
        refine (Count_map B f w10 m10.out).mono ?_
        rintro e w11 ⟨rfl, rfl⟩
        rw [← Hc.out]
        go_wp2
        go_ret
        exact ⟨rfl, b10.out⟩


theorem own : ownKnob Try.prog.godebug = none := by kernel_rfl
theorem laidOut : laidOutB Try.prog = true := by kernel_rfl

set_option maxRecDepth 100000 in
theorem lifted (os : Os) (started : os.Started) (H : Type) (enc : TypeId × Value → H) :
    ReturnsInHanded {} Try.checked os 4 .any (Rows.slabApartSpec.pre6 enc Try.prog Try.f4 Rows.slabApartRow.domain false) (Rows.slabApartSpec.post enc Try.prog Try.f4 false true false false) := by
  refine returnsInHanded_of_change_sized (C := Try.checked) own started (by kernel_rfl) Try.func4
    (ChangeSpec.witness6 (enc := enc) (C := Try.checked) false ⟨#[], #[.int .i64 0, .slice none 0 0], []⟩ 8 (by kernel_rfl) (by kernel_rfl) (by kernel_rfl) (by kernel_rfl)) ?_
  intro W base args ds gs before hval0 hW hcnd hsz0 _
  have hval : ∀ (j : Nat) t v, Try.f4.params[j]? = some t → args[j]? = some v → Value.okWide Try.prog W .any base t v := hval0
  have hsz : (DataW.weightsEach Try.prog (Try.f4.params.toList ++ Rows.slabApartSpec.plain.varTypes Try.prog) (ds ++ gs)).all (· ≤ reachBytes) = true := hsz0
  have hW' := hW
  obtain ⟨p, q, hA0, hV, rfl, hfz, hnd⟩ := hW
  have hA : DataW.TrodAll enc Try.prog W 0 (fun _ => true) true Try.f4.params.toList args.toList ds p := hA0
  rw [Try.params4] at hA hval hsz
  obtain ⟨v0, vs0, d0, ds0, p0, q0, hargs, rfl, rfl, h0, r0⟩ := trodAll_cons hA
  obtain ⟨v1, vs1, d1, ds1, p1, q1, rfl, rfl, rfl, h1, r1⟩ := trodAll_cons r0
  obtain ⟨rfl, rfl, rfl⟩ := trodAll_nil r1
  obtain rfl : args = #[v0, v1] := by cases args; simp_all
  obtain ⟨rfl, rfl⟩ := trodVars_none hV
  obtain ⟨a0, rfl, rfl, rfl, wf0⟩ := open_int Try.underlying3 (hval 0 3 v0 rfl rfl) h0
  have k1 := h1
  have lt1 : ∀ x ∈ p1, x.block < W.heap.size := by obtain ⟨m, hm⟩ := k1; exact DataW.trod_lt m _ _ _ hm
  obtain ⟨ao1, a1, cap1, rfl, sp1, fi1, nl1⟩ := arg_acts7 h1 (hval 1 28 v1 rfl rfl) (fun es sp e => sized_slice hsz (j := 1) (t := 28) (e := 31) rfl (by rw [e]; rfl) Try.underlying28)
  clear hA0 hval0 hsz0
  refine (walk a0 ao1 a1 cap1 W (wf_i64 wf0) sp1 fi1 nl1).mono fun e W' ⟨he, bel⟩ => ?_
  subst he
  exact ⟨_, rfl, _, _, _, [], _, [], hW', trodAll_mk1 (shut_bool Try.underlying4 _), (trodAll_cons_mk (shut_int Try.underlying3 wf0) (trodAll_cons_mk (Below.trod laidOut (by kernel_rfl) (of_decide_eq_true (by kernel_rfl)) k1 bel lt1) trodAll_mk0)), rfl, bel.frame _, fun h => by cases h⟩

theorem proved : Rows.SlabApartSaid :=
  OpenClaim.holds_of_wide 4 Try.f4 rfl rfl rfl rfl rfl rfl rfl ⟨rfl, rfl, rfl, rfl, rfl⟩ rfl rfl rfl rfl rfl (by kernel_rfl) Try.func4 (by kernel_rfl)
    (of_decide_eq_true (by kernel_rfl)) (by unfold Func.isWrapper; first | (rw [if_pos (by decide +kernel)]; kernel_rfl) | (rw [if_neg (by decide +kernel)]; exact ⟨rfl, rfl⟩))
    (fun os started H enc _ => lifted os started H enc)
end Go.Proofs.Ythnncohkdgaipaa.lawSlabApart
