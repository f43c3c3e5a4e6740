/- A map's Many. -/
import Derived.Test.YthnncohkdgaipaaSlabD
namespace Go.Proofs.Ythnncohkdgaipaa
open Go.ChangeShapes Go.WideShapes Go.ChangeAt Go.RowKit
set_option linter.unusedVariables false
set_option maxRecDepth 20000

theorem kept_pushed {w w' : World} {base : Nat} {e : TypeId} {size n : Nat} {v : Value} {xs : List Value} (hown : w.ownsRow base e size v n xs) (hg : w.grownBy w' v.ownBlock) : Kept (fun k => base ≤ k) w w' :=
  Kept.of_grown hg fun k ek _ => (World.ownsRow.lt hown k ek).1

theorem OwnI.kept {w w' : World} {base : Nat} {v : Value} {zs : List Int} {F : Nat → Prop} (h : OwnI w base v zs) (hb : Kept F w w') (hF : ∀ k, base ≤ k → ¬ F k) : OwnI w' base v zs := by
  obtain ⟨hl, h | h⟩ := h
  · exact ⟨hl, .inl h⟩
  · obtain ⟨g, cap, cur, rfl, h1, h2, h3⟩ := h
    refine ⟨hl, .inr ⟨g, cap, cur, rfl, h1, ?_, h3⟩⟩
    have : g < w.heap.size := by
      by_cases hb : g < w.heap.size
      · exact hb
      · rw [Array.getElem?_eq_none (by omega)] at h2; simp at h2
    rw [hb.block g this (hF g h1), h2]

def manyE (f : Nat → Nat) (n : Int) : Int := if n ≤ (countN f : Int) then 0 else 71
def manyI (f : Nat → Nat) (n : Int) : List Int := if n ≤ (countN f : Int) then (manyL f n.toNat).map Int.ofNat else []
def manyM (f : Nat → Nat) (n : Int) : Nat → Nat := if n ≤ (countN f : Int) then manyF f n.toNat else f

theorem manyI_none (f : Nat → Nat) {n : Int} (h : n ≤ 0) : manyE f n = 0 ∧ manyI f n = [] ∧ manyM f n = f := by
  have h1 : n ≤ (countN f : Int) := by omega
  unfold manyE manyI manyM
  rw [if_pos h1, if_pos h1, if_pos h1, show n.toNat = 0 from by omega]
  exact ⟨rfl, rfl, rfl⟩
theorem manyI_no (f : Nat → Nat) {n : Int} (h : ¬ n ≤ (countN f : Int)) : manyE f n = 71 ∧ manyI f n = [] ∧ manyM f n = f := by
  unfold manyE manyI manyM
  rw [if_neg h, if_neg h, if_neg h]
  exact ⟨rfl, rfl, rfl⟩
theorem manyI_yes (f : Nat → Nat) {n : Nat} (h : n ≤ countN f) : manyE f n = 0 ∧ manyI f n = (manyL f n).map Int.ofNat ∧ manyM f n = manyF f n := by
  have h1 : (n : Int) ≤ (countN f : Int) := by omega
  unfold manyE manyI manyM
  rw [if_pos h1, if_pos h1, if_pos h1, show (n : Int).toNat = n from by omega]
  exact ⟨rfl, rfl, rfl⟩

set_option maxHeartbeats 2000000 in
theorem Many_any (B : Nat) (f : Nat → Nat) (n : Int) (w : World) (hm : MapAt w B f) (hn : I64 n) :
    Calls Try.prog 12 #[.pointer (some ⟨B, 0, none⟩), .int .i64 n] w fun e w' =>
      ∃ v, e = .returned (.tuple #[v, .int .i64 (manyE f n)]) ∧ OwnI w' w.heap.size v (manyI f n) ∧ MapAt w' B (manyM f n) ∧ Kept (· = B) w w' := by
  have hBw := hm.lt
  unfold I64 at hn
  have hcl := countN_le f
  have hm := Lib.hid hm
  obtain ⟨i0, hi, hz0, hz1, hz2⟩ := info_parts sInfoInt
  obtain ⟨c, hc⟩ : ∃ c, c = countN f := ⟨_, rfl⟩
  rw [← hc] at hcl
  have Hc := Lib.hid hc
  clear hc
  have hcall : Hid (Calls Try.prog 10 #[.pointer (some ⟨B, 0, none⟩)] w fun e w' => e = .returned (.int .i64 (c : Nat)) ∧ w' = w) := Lib.hid (by rw [Hc.out]; exact Count_map B f w hm.out)
  by_cases hle : n ≤ (c : Int)
  · by_cases h0 : n ≤ 0
    · have hx := Lib.hid (manyI_none f h0)
      go_enter Try.func12, Try.ntmps12
      go_wp2_with fail
      refine hcall.out.mono ?_
      rintro e w1 ⟨rfl, rfl⟩
      go_wp2
      go_loopw [6, 7, 8, 14] (fun l u v i wr => i = .int .i64 0 ∧ l = .slice none 0 0 ∧ wr = w1)
        (fun _ _ _ _ _ => 0)
      case atStart => exact ⟨rfl, rfl, rfl⟩
      case round =>
        obtain ⟨rfl, rfl, rfl⟩ := hrel
        go_wp2
        refine bodyPost_ret (v := .tuple #[.slice none 0 0, .int .i64 0]) (by simp [results, Try.results12, go_sem]) rfl ?_
        exact ⟨_, by rw [hx.out.1], by rw [hx.out.2.1]; exact World.ownsRow_nil _ _ _ _, by rw [hx.out.2.2]; exact hm.out, Kept.refl _ _⟩
    · obtain ⟨N, rfl⟩ : ∃ N : Nat, n = N := ⟨n.toNat, by omega⟩
      have hN : N ≤ c := by omega
      have hx := Lib.hid (manyI_yes f (n := N) (by rw [← Hc.out]; exact hN))
      go_enter Try.func12, Try.ntmps12
      go_wp2_with fail
      refine hcall.out.mono ?_
      rintro e w1 ⟨rfl, rfl⟩
      go_wp2
      go_loopw [6, 7, 8, 14] (fun l u v i wr => ∃ k : Nat, k ≤ N ∧ i = .int .i64 k ∧ OwnI wr w1.heap.size l ((manyL f k).map Int.ofNat) ∧ MapAt wr B (manyF f k) ∧ Kept (· = B) w1 wr)
        (fun _ _ _ i _ => N - (intOf i).toNat)
      case atStart => exact ⟨0, by omega, rfl, World.ownsRow_nil _ _ _ _, hm.out, Kept.refl _ _⟩
      case round =>
        obtain ⟨k, hk, rfl, hown, hmr, hkp⟩ := hrel
        have hll := manyL_length f k
        by_cases hlt : k < N
        · have hcnt := many_count (f := f) k (by rw [← Hc.out]; omega)
          rw [← Hc.out] at hcnt
          obtain ⟨i, ha1, ha2, ha3⟩ := many_step (f := f) (n := k) (by omega)
          obtain ⟨hi1, _, _, _⟩ := allocO_some ha1
          clear hcnt
          have ha2 := Lib.hid ha2
          have ha3 := Lib.hid ha3
          have hsz := hkp.size
          have hI : Hid (allocI (manyF f k) = (i : Int) ∧ allocE (manyF f k) = 0 ∧ updO (manyF f k) (allocO (manyF f k)) = manyF f (k + 1)) := Lib.hid ⟨by unfold allocI; rw [ha1], by unfold allocE; rw [ha1], rfl⟩
          clear ha1
          have hrow : Hid (OwnI wr w1.heap.size u6 ((manyL f k).map Int.ofNat)) := Lib.hid hown
          have hlen : ((manyL f k).map Int.ofNat).length = k := by rw [List.length_map, hll]
          have hlen := Lib.hid hlen
          have hll := Lib.hid hll
          have hmr := Lib.hid hmr
          have hkp := Lib.hid hkp
          clear hown
          go_wp2_with fail
          refine (Alloc_any B _ wr hmr.out).mono ?_
          rintro e w2 ⟨rfl, hm2, hk2⟩
          rw [hI.out.1, hI.out.2.1]
          rw [hI.out.2.2] at hm2
          have hrow2 : OwnI w2 w1.heap.size u6 ((manyL f k).map Int.ofNat) := hrow.out.kept hk2 (fun q hq e => by omega)
          have hs2 := hk2.size
          have hm2 := Lib.hid hm2
          have hk2 := Lib.hid hk2
          have hrow2 := Lib.hid hrow2
          have hrow2' : Hid (w2.ownsRow w1.heap.size 3 1 u6 k (((manyL f k).map Int.ofNat).map (.int .i64))) := Lib.hid (by have := hrow2.out.row; rw [hlen.out] at this; exact this)
          go_wp2_with (at_builtin; go_loud (refine wpList_push rfl _ _ 32 rfl w1.heap.size 3 i0 _ 1 8 Try.underlying32 hi hz0 hz1 hz2 rfl (by decide) u6 _ _ w2 rfl hrow2'.out 1 #[.int .i64 i] rfl rfl rfl (by omega) (by omega) (by omega) ?_); intro v' w' ho hg hv; obtain ⟨g, cap, rfl⟩ := hv; have hg := Lib.hid hg; have ho := Lib.hid ho)
          go_roundw
          case rel =>
            refine ⟨_, _, _, _, ⟨k + 1, by omega, ?_, ?_, ?_, ?_⟩, rfl, rfl, rfl, rfl⟩
            · go_num
            · rw [ha3.out, List.map_append]
              refine OwnI.pushed ?_
              rw [hlen.out]
              exact ho.out
            · exact hm2.out.kept (kept_pushed hrow2'.out hg.out) (by show ¬ w1.heap.size ≤ B; omega)
            · exact (hkp.out.trans hk2.out).then (kept_pushed hrow2'.out hg.out) (fun q h1 h2 => by omega)
          case measure => simp [intOf] <;> omega
        · obtain rfl : k = N := by omega
          go_wp2
          refine bodyPost_ret (v := .tuple #[u6, .int .i64 0]) (by simp [results, Try.results12, go_sem]) rfl ?_
          exact ⟨u6, by rw [hx.out.1], by rw [hx.out.2.1]; exact hown, by rw [hx.out.2.2]; exact hmr, hkp⟩
  · have hx := Lib.hid (manyI_no f (n := n) (by rw [← Hc.out]; exact hle))
    go_enter Try.func12, Try.ntmps12
    go_wp2_with fail
    refine hcall.out.mono ?_
    rintro e w1 ⟨rfl, rfl⟩
    go_wp2
    refine bodyPost_ret (v := .tuple #[.slice none 0 0, .int .i64 71]) (by simp [results, Try.results12, go_sem]) rfl ?_
    exact ⟨_, by rw [hx.out.1], by rw [hx.out.2.1]; exact World.ownsRow_nil _ _ _ _, by rw [hx.out.2.2]; exact hm.out, Kept.refl _ _⟩
end Go.Proofs.Ythnncohkdgaipaa
