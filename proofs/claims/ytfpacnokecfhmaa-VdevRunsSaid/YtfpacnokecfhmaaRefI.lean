/- The document's own device: Put. -/
import Derived.Test.YtfpacnokecfhmaaRefH
namespace Go.Proofs.Ytfpacnokecfhmaa
open Go.ChangeShapes Go.WideShapes Go.ChangeAt Go.RowKit
set_option linter.unusedVariables false

theorem owns_shape {w : World} {base : Nat} {e : TypeId} {size n : Nat} {v : Value} {xs : List Value} (h : w.ownsRow base e size v n xs) : ∃ co cc, v = .slice co n cc ∧ n ≤ cc ∧ (co = none → cc = 0) ∧ ∀ a, co = some a → base ≤ a.block := by
  obtain ⟨hl, ⟨rfl, hn⟩ | ⟨g, cap, cur, rfl, g1, g2, g3, _⟩⟩ := h
  · subst hn
    exact ⟨none, 0, rfl, Nat.le_refl _, fun _ => rfl, fun a h => by cases h⟩
  · exact ⟨_, cap, rfl, g3, fun h => (by cases h), fun a h => by cases h; exact g1⟩

set_option maxRecDepth 100000 in
set_option maxHeartbeats 2000000 in
theorem rPut_yes (so : Option Addr) (n sc : Nat) (po : Option Addr) (ps : List (Nat × Sec)) (np pc : Nat) (hnp : Hid (ps.length = np)) (hpn : po = none → pc = 0) (ops f f' : Int) (ho : 0 ≤ ops ∧ ops < 4611686018427387904) (h0 : f ≠ 0) (hf : -1 ≤ f ∧ f ≤ 9223372036854775807) (he : Hid (f' = refLeft f))
    (hle : n ≤ 1024) (hlp : np ≤ 1000000000) (i : Nat) (hi : i < n) (s : Sec) (w : World) (hps : Reads w po (rowsL wrL ps)) :
    Calls Try.prog 16 #[.agg #[.slice so n sc, .slice po np pc, .int .i64 ops, .int .i64 f, .bool false], .int .i64 (i : Int), .agg (secL s).toArray] w fun e w' => ∃ po' pc',
      e = .returned (.tuple #[.agg (devL so n sc po' (np + 1) pc' (ops + 1) f' false).toArray, .int .i64 0]) ∧ Reads w' po' (rowsL wrL (ps ++ [(i, s)])) ∧ np + 1 ≤ pc' ∧ (po' = none → pc' = 0) ∧ (∀ a, po' = some a → w.heap.size ≤ a.block) ∧ Below w.heap.size w w' := by
  obtain ⟨ho1, ho2⟩ := ho
  have ht := There_any so n sc (.slice po np pc) (.int .i64 (ops + 1)) (.int .i64 f) (.bool false) (i : Int) (by unfold I64; omega) hle
  rw [show (decide (0 ≤ (i : Int)) && decide ((i : Int) < (n : Int))) = true from by simp; omega] at ht
  have ht := Lib.hid ht
  have hp := Lib.hid (power_yes so n sc po np pc (ops + 1) f f' h0 hf he)
  have hps := Lib.hid hps
  have hpn := Lib.hid hpn
  obtain ⟨i0, hi0, hz0, hz1, hz2⟩ := info_parts infoRw3
  have hi0 := Lib.hid hi0
  have hz0 := Lib.hid hz0
  have hz1 := Lib.hid hz1
  have hz2 := Lib.hid hz2
  clear h0 hf
  go_enter Try.func16, Try.ntmps16
  go_wp2_with fail
  refine (ht.out _).mono ?_
  rintro e w1 ⟨rfl, b1⟩
  have hB1 := Lib.hid (blk_out (((Blk.new w 30 (devL so n sc po np pc (ops + 1) f false)).alloc _).alloc _) b1)
  have hS1 := Lib.hid (blk_out ((two_new w _ 33 (secL s)).alloc _) b1)
  have hR1 := Lib.hid (blk_out (three_at w _ _ 30 (devL none 0 0 none 0 0 0 0 false)) b1)
  have q1 := Lib.hid ((three_below w _ _ _).trans (b1.mono (by simp; omega)))
  clear b1
  go_wp2_with (first
  | ((with_reducible refine guardList ?_); refine wantList_load (by rfl) 30 _ rfl (w.heap.size) 0 (by rfl) (devL so n sc po np pc (ops + 1) f false) _ (range_dev hB1.out) Try.underlying30 rfl infoDev5 ?_)
  | fail)
  refine (hp.out _).mono ?_
  rintro e w2 ⟨rfl, b2⟩
  have hB2 := Lib.hid (blk_out hB1.out b2)
  have hS2 := Lib.hid (blk_out hS1.out b2)
  have hR2 := Lib.hid (blk_out hR1.out b2)
  have hRl := hR2.out.lt
  have q2 := Lib.hid (q1.out.trans (b2.mono q1.out.size))
  clear b2
  go_upto_region 5 with (first
  | ((with_reducible refine guardList ?_)
     refine wantList_store (by rfl) 30 _ _ rfl (w.heap.size) 0 (by rfl) (devL so n sc po np pc (ops + 1) f' false) (by rfl) _ (devL so n sc po np pc (ops + 1) f false) (devL so n sc po np pc (ops + 1) f' false) hB2.out (Nat.le_of_eq rfl) devL_one infoDev5 whole_dev ?_
     intro w3 hB3 k3 z3
     have hR3 := Lib.hid (hR2.out.kept k3 (by omega))
     have hS3 := Lib.hid (hS2.out.kept k3 (by omega))
     have q3 := Lib.hid (Kept.out q2.out k3 (fun i _ e => by omega) q2.out.size)
     have c1 : w3.cell? ⟨w.heap.size, 1, none⟩ = some (.slice po np pc) := (hB3.cell 1).trans rfl
     have hl3 := hB3.lt
     have hB3 := Lib.hid hB3
     clear k3 z3))
  go_upto_region 8 with (first
  | (at_builtin
     refine wpList_copyWrs rfl _ _ rfl w3 (by rfl) po np pc ps (by rfl) hpn.out hnp.out (hps.out.below q3.out) hlp ?_
     intro co cc w4 ho b1 b2 b3
     have hB4 := Lib.hid (blk_out hB3.out b3)
     have hS4 := Lib.hid (blk_out hS3.out b3)
     have hR4 := Lib.hid (blk_out hR3.out b3)
     have q4 := Lib.hid (q3.out.trans (b3.mono q3.out.size))
     have ho4 := Lib.hid (owns_low ho (show w.heap.size + 3 ≤ w3.heap.size from by have := hR3.out.lt; omega))
     have hs4 := b3.size
     clear b1 b2 b3 ho c1))
  have hB4l := hB4.out.lt
  have hS4l := hS4.out.lt
  have hR4l := hR4.out.lt
  go_upto_region 9 with (first
  | ((with_reducible refine guardList ?_); refine wantList_load (by rfl) 33 _ rfl (w.heap.size + 1) 0 (by rfl) (secL s) _ (range_dev hS4.out) Try.underlying33 rfl (infoSecL _) ?_)
  | ((with_reducible refine guardList ?_); refine wantList_build (by rfl) 66 [(0, .tmp 32), (1, .tmp 33)] rfl (wrL (i, s)) _ (by rfl) (built_rw i s) ?_)
  | ((with_reducible refine guardList ?_)
     refine wantList (by rfl) fun K hK => ?_
     refine wp_buildOne 28 66 _ rfl (wrL (i, s)) rfl Try.underlying28 (infoRw _) (zeroRwL _) (by rw [wrL_length]; omega) (by rw [wrL_length]; decide) ?_
     refine hK _ _ ?_
     clear hK K
     have hB5 := Lib.hid (hB4.out.alloc (.cells (wrL (i, s)).toArray 66))
     have hR5 := Lib.hid (hR4.out.alloc (.cells (wrL (i, s)).toArray 66))
     have ho5 := Lib.hid (World.ownsRow.alloc ho4.out (.cells (wrL (i, s)).toArray 66))
     have q5 := Lib.hid (q4.out.alloc q4.out.size (.cells (wrL (i, s)).toArray 66)))
  | ((with_reducible refine guardList ?_)
     refine wantList (by rfl) fun K hK => ?_
     refine wp_push _ _ 28 rfl (w.heap.size + 3) 66 i0 _ 129 136 Try.underlying28 hi0.out hz0.out hz1.out hz2.out (List.size_toArray.trans (wrL_length _)) (by omega) (.slice co np cc) np (rowsL wrL ps) rfl ho5.out w4.heap.size 1 (wrL (i, s)) rfl (Blk.new _ _ _) (wrL_length _) (wrL_one _) (by unfold maxLen; omega) (by omega) (by simp; omega) ?_
     intro v' w6 ho6 hg6 hat6
     refine hK _ _ ?_
     clear hK K
     have k6 := Kept.of_grown (F := fun k => (Value.slice co np cc).ownBlock = some k) hg6 (fun k hk _ => hk)
     have hB6 := hB5.out.kept k6 (fun e => by have := (World.ownsRow.lt ho5.out _ e).1; omega)
     have hR6 := Lib.hid (hR5.out.kept k6 (fun e => by have := (World.ownsRow.lt ho5.out _ e).1; omega))
     have q6 := Lib.hid (Kept.out q5.out k6 (fun k _ hk => by have := (World.ownsRow.lt ho5.out k hk).1; omega) q5.out.size)
     obtain ⟨po', pc', rfl, hpc, hpn', hF7⟩ := owns_shape ho6
     have hF7 := Lib.hid hF7
     have hpn' := Lib.hid hpn'
     have hr6 := Lib.hid (owns_reads ho6)
     have c1 : w6.cell? ⟨w.heap.size, 1, none⟩ = some (.slice po np pc) := (hB6.cell 1).trans rfl
     have f1 := hB6.frozen 1
     have hB6 := Lib.hid hB6
     clear k6 ho6 hg6 hat6))
  have hB7 : Blk (w6.setCell ⟨w.heap.size, 1, none⟩ (.slice po' (np + 1) pc')) w.heap.size 30 (devL so n sc po' (np + 1) pc' (ops + 1) f' false) := hB6.out.set 1 (.slice po' (np + 1) pc')
  have k7 := Kept.cellAt w6 w.heap.size 1 (.slice po' (np + 1) pc')
  have hR7 := Lib.hid (hR6.out.kept k7 (by omega))
  have hr7 := Lib.hid (hr6.out.keptF k7 (fun a ha e => by have := hF7.out a ha; omega))
  have q7 := Lib.hid (Kept.out q6.out k7 (fun i _ e => by omega) q6.out.size)
  have hB7 := Lib.hid hB7
  clear k7 c1 f1
  go_wp2_with (first
  | ((with_reducible refine guardList ?_); refine wantList_load (by rfl) 30 _ rfl (w.heap.size) 0 (by rfl) (devL so n sc po' (np + 1) pc' (ops + 1) f' false) _ (range_dev hB7.out) Try.underlying30 rfl infoDev5 ?_)
  | ((with_reducible refine guardList ?_)
     refine wantList_store (by rfl) 30 _ _ rfl (w.heap.size + 2) 0 (by rfl) (devL so n sc po' (np + 1) pc' (ops + 1) f' false) (by rfl) _ (devL none 0 0 none 0 0 0 0 false) (devL so n sc po' (np + 1) pc' (ops + 1) f' false) hR7.out (Nat.le_of_eq rfl) devL_one infoDev5 whole_dev ?_
     intro w8 hR8 k8 z8
     have hR8 := Lib.hid hR8
     have hr8 := Lib.hid (hr7.out.keptF k8 (fun a ha e => by have := hF7.out a ha; omega))
     have q8 := Lib.hid (Kept.out q7.out k8 (fun i _ e => by omega) q7.out.size)
     clear k8 z8))
  refine bodyPost_ret (results_row_tmp rfl (rowDev hR8.out)) rfl ⟨po', pc', rfl, ?_, hpc, hpn'.out, fun a ha => by have := hF7.out a ha; omega, q8.out⟩
  rw [rowsL_append, rowsL_one]
  exact hr8.out
end Go.Proofs.Ytfpacnokecfhmaa
