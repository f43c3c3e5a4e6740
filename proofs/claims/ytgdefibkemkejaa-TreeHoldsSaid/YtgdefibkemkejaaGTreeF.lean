/- TreeF: the texts TreeZ, one behind the other. -/
import Derived.Test.YtgdefibkemkejaaGTreeD
import Derived.Test.YtgdefibkemkejaaGTreeE
/- All and Blocks of the program's tree; all its calls. -/
namespace Go.Proofs.Ytgdefibkemkejaa
open Go.ChangeShapes Go.WideShapes Go.ChangeAt Go.RowKit
set_option linter.unusedVariables false
set_option maxRecDepth 20000

set_option maxHeartbeats 2000000 in
theorem tNotHole_any (q : P3) (W : World) : Calls Try.prog 37 #[.agg (p3L q).toArray] W fun e w' => e = .returned (.bool (!q.holeB)) ∧ Below W.heap.size W w' := by
  obtain ⟨wb, hwb, T⟩ := One.open W 32 (p3L q)
  have hH := Lib.hid fun W => tHole_any q W
  generalize q.holeB = hb at *
  go_enter Try.func37, Try.ntmps37
  go_upto_region 1 with (fail)
  rw [← hwb.out]
  go_wp2_with ((with_reducible refine guardList ?_); refine wantList_load (by rfl) 32 _ rfl W.heap.size 0 (by rfl) (p3L q) _ (rangeN T.out.b0) Try.underlying32 rfl (infoPtr _) ?_)
  refine (hH.out _).mono ?_
  rintro e w2 ⟨rfl, b2⟩
  have T2 := Lib.hid (T.out.below b2)
  clear b2 T
  cases hb
  · go_wp2
    go_ret
    exact ⟨rfl, T2.out.q⟩
  · go_wp2
    go_ret
    exact ⟨rfl, T2.out.q⟩

set_option maxHeartbeats 2000000 in
theorem tSince_any (q : P3) (hq : q.Fit) (sb st : Nat) (hst : st < 18446744073709551616) (W : World) (hc : W.cell? ⟨sb, 0, none⟩ = some (.int .u64 (st : Int))) : Calls Try.prog 38 #[.agg (p3L q).toArray, .pointer (some ⟨sb, 0, none⟩)] W fun e w' => e = .returned (.bool (q.sinceB st)) ∧ Below W.heap.size W w' := by
  obtain ⟨wb, hwb, T⟩ := One.open W 32 (p3L q)
  have hcb : wb.cell? ⟨sb, 0, none⟩ = some (.int .u64 (st : Int)) := by rw [hwb.out]; exact cell_alloc hc _
  have hlb : sb < wb.heap.size := cell_lt (a := ⟨sb, 0, none⟩) hcb
  have hS : ∀ W : World, Calls Try.prog 39 #[.agg (p3L q).toArray, .int .u64 (st : Int)] W fun e w' => e = .returned (.bool (q.sinceB st)) ∧ Below W.heap.size W w' := fun W => pSince_any q.a q.b q.s st W hq hst
  generalize q.sinceB st = hb at *
  have hS := Lib.hid hS
  clear hc
  go_enter Try.func38, Try.ntmps38
  go_upto_region 1 with (fail)
  rw [← hwb.out]
  go_wp2_with ((with_reducible refine guardList ?_); refine wantList_load (by rfl) 32 _ rfl W.heap.size 0 (by rfl) (p3L q) _ (rangeN T.out.b0) Try.underlying32 rfl (infoPtr _) ?_)
  refine (hS.out _).mono ?_
  rintro e w2 ⟨rfl, b2⟩
  have T2 := Lib.hid (T.out.below b2)
  clear b2 T
  go_wp2
  go_ret
  exact ⟨rfl, T2.out.q⟩

section
variable {w : World} {g d B : Nat} {F : Nat → Prop} {m : PileM} {n kk c : Nat} {t : Tree} {f : Nat → Sec}
theorem LI.up {w w1 w' : World} {F' : Nat → Prop} {v : Value} {L : List Nat} (h : LI w1 w' F' v L) (hs : w.heap.size ≤ w1.heap.size) : LI w w' F' v L := by
  obtain ⟨ao, cap, h1, h2, h3, h4⟩ := h
  exact ⟨ao, cap, h1, h2, h3, fun a ha => ⟨Nat.le_trans hs (h4 a ha).1, (h4 a ha).2⟩⟩

set_option maxHeartbeats 2000000 in
theorem tBlocks_ok (h : IsPile w g d B F m) (hp : TP m n kk c) (ok : TreeOk m n t f) :
    Calls Try.prog 14 #[.pointer (some ⟨g, 0, none⟩), .agg (p3L t.root).toArray] w fun e w' => ∃ m' v F', e = .returned (.tuple #[v, .int .i64 0]) ∧ TP m' n kk c ∧ Alike m m' ∧ PStep w g d B F F' m' w' ∧ LI w w' F' v t.blocksL := by
  have hW := Lib.hid fun W (G : Nat → Prop) (hI : IsPile W g d B G m) => tWalk_blocks hI hp ok (fun q => !q.holeB) (fun W' q _ _ => tNotHole_any q W')
  have hb : Hid (t.reachUp (fun q => !q.holeB) 64 = t.blocksL) := Lib.hid (reach_blocks ok hp)
  clear ok hp
  rw [hb.out] at hW
  generalize t.blocksL = BL at *
  generalize t.root = r at *
  obtain ⟨wb, hwb, T⟩ := ((CL.start h).box 32 (p3L r)).named
  have h := Lib.hid h
  clear hb
  go_enter Try.func14, Try.ntmps14
  go_upto_region 1 with (fail)
  rw [← hwb.out]
  go_wp2_with ((with_reducible refine guardList ?_); refine wantList_load (by rfl) 32 _ rfl w.heap.size 0 (by rfl) (p3L r) _ (rangeN T.out.b0) Try.underlying32 rfl (infoPtr _) ?_)
  refine (hW.out _ _ T.out.p.at_).mono ?_
  rintro e w2 ⟨m', v, u, F', rfl, tp, al, S, _, li⟩
  have T2 := Lib.hid (T.out.turn S)
  have li := Lib.hid (li.up T.out.size)
  have tp := Lib.hid tp
  have al := Lib.hid al
  clear S T
  go_wp2
  refine bodyPost_ret (v := .tuple #[u, .int .i64 0]) (by simp [results, Try.results14, go_sem]) rfl ?_
  exact ⟨m', u, F', rfl, tp.out, al.out, T2.out.p, li.out⟩

set_option maxHeartbeats 2000000 in
theorem tAll_ok (h : IsPile w g d B F m) (hp : TP m n kk c) (ok : TreeOk m n t f) (st : Nat) (hst : st < 18446744073709551616) :
    Calls Try.prog 17 #[.pointer (some ⟨g, 0, none⟩), .agg (p3L t.root).toArray, .int .u64 (st : Int)] w fun e w' => ∃ m' v F', e = .returned (.tuple #[v, .int .i64 0]) ∧ TP m' n kk c ∧ Alike m m' ∧ PStep w g d B F F' m' w' ∧ LP w w' F' v (t.allL st) := by
  have hW : Hid (∀ W (G : Nat → Prop) (sb : Nat), IsPile W g d B G m → W.cell? ⟨sb, 0, none⟩ = some (.int .u64 (st : Int)) → ¬ G sb → Calls Try.prog 36 #[.pointer (some ⟨g, 0, none⟩), .agg (p3L t.root).toArray, .func (.func 38) #[] #[.pointer (some ⟨sb, 0, none⟩)]] W fun e w' => ∃ m' v u F', e = .returned (.tuple #[v, u, .int .i64 0]) ∧ TP m' n kk c ∧ Alike m m' ∧ PStep W g d B G F' m' w' ∧ LP W w' F' v (t.allL st)) := Lib.hid fun W G sb hI hc hn => by
    refine (tWalk_all (sb := sb) hI hp ok (fun q => q.sinceB st) (fun W' q k hq => tSince_any q hq sb st hst W' ((k.cell (cell_lt (a := ⟨sb, 0, none⟩) hc) hn).trans hc))).mono ?_
    rintro e w' ⟨m', v, u, F', h1, h2, h3, h4, h5, _⟩
    exact ⟨m', v, u, F', h1, h2, h3, h4, h5⟩
  clear ok hp hst
  generalize t.allL st = AL at *
  generalize t.root = r at *
  obtain ⟨wb, hwb, T⟩ := (((CL.start h).box 32 (p3L r)).box 29 [.int .u64 (st : Int)]).named
  have h := Lib.hid h
  have hmf : ∀ (fn : Fn) (first cap : Array Value) (w : World), (Instr.makeFunc fn first cap).run Try.prog w = .ok (.func fn first cap) w := fun _ _ _ _ => rfl
  go_enter Try.func17, Try.ntmps17
  go_upto_region 1 with (fail)
  rw [← hwb.out]
  simp only [World.size_alloc] at T
  have hcs : Hid (wb.cell? ⟨w.heap.size + 1, 0, none⟩ = some (.int .u64 (st : Int))) := Lib.hid (T.out.b0.cell 0)
  have hns := Lib.hid T.out.l.out
  go_wp2_with ((with_reducible refine guardList ?_); refine wantList_load (by rfl) 32 _ rfl w.heap.size 0 (by rfl) (p3L r) _ (rangeN T.out.b1) Try.underlying32 rfl (infoPtr _) ?_)
  refine (hW.out _ _ _ T.out.p.at_ hcs.out hns.out).mono ?_
  rintro e w2 ⟨m', v, u, F', rfl, tp, al, S, lp⟩
  have T2 := Lib.hid (T.out.turn S)
  have lp := Lib.hid (lp.up T.out.size)
  have tp := Lib.hid tp
  have al := Lib.hid al
  clear S T hcs hns
  go_wp2
  refine bodyPost_ret (v := .tuple #[v, .int .i64 0]) (by simp [results, Try.results17, go_sem]) rfl ?_
  exact ⟨m', v, F', rfl, tp.out, al.out, T2.out.p, lp.out⟩
end

/-- the calls on a tree do what is asked of them -/
theorem treeC : TreeC where
  get := fun {w g d B F m n kk c t f} h hp hk ok i hi => by
    by_cases hin : 0 ≤ i ∧ i < 64
    · obtain ⟨x, rfl⟩ : ∃ x : Nat, i = (x : Int) := ⟨i.toNat, by omega⟩
      refine (tGet_in h hp ok (i := x) (by omega)).mono ?_
      rintro e w' ⟨m', rfl, p, a, F', S⟩
      rw [if_pos hin, if_pos hin]
      exact ⟨m', F', rfl, p, a, S⟩
    · refine (tGet_no h t.root i hin).mono ?_
      rintro e w' ⟨rfl, F', S⟩
      rw [if_neg hin, if_neg hin]
      exact ⟨m, F', rfl, hp, Alike.refl m, S⟩
  set := fun {w g d B F m n kk c t f} h hp hk ok i ao bs cap hb hl hn hF hc hin => by
    obtain ⟨x, rfl⟩ : ∃ x : Nat, i = (x : Int) := ⟨i.toNat, by omega⟩
    exact tSet_ok h hp hk ok (i := x) (by omega) ao bs cap hb hF hc hin.2.2
  set_no := fun {w g d B F m n kk c t f} h hp hk ok i ao bs cap hi hb hl hcap hn hF hin => by
    by_cases h1 : 0 ≤ i ∧ i < 64
    · obtain ⟨x, rfl⟩ : ∃ x : Nat, i = (x : Int) := ⟨i.toNat, by omega⟩
      refine (tSet_long h t.root (i := x) (by omega) ao bs.length cap (by omega)).mono ?_
      rintro e w' ⟨F', rfl, S⟩
      rw [if_pos h1]
      exact ⟨m, _, F', rfl, hp, Alike.refl m, S, LP.none⟩
    · refine (tSet_no h t.root i h1 ao bs.length cap).mono ?_
      rintro e w' ⟨F', rfl, S⟩
      rw [if_neg h1]
      exact ⟨m, _, F', rfl, hp, Alike.refl m, S, LP.none⟩
  trim := fun {w g d B F m n kk c t f} h hp hk ok i hc hin hl => by
    obtain ⟨x, rfl⟩ : ∃ x : Nat, i = (x : Int) := ⟨i.toNat, by omega⟩
    exact tTrim_ok h hp hk ok (i := x) (by omega) hc hl
  trim_no := fun {w g d B F m n kk c t f} h hp hk ok i hi hno => by
    by_cases h1 : 0 ≤ i ∧ i < 64
    · obtain ⟨x, rfl⟩ : ∃ x : Nat, i = (x : Int) := ⟨i.toNat, by omega⟩
      have hz : t.leaf x = p3z := by
        rcases hno with h2 | h2
        · exact absurd h1 h2
        · exact h2
      refine (tTrim_hole h hp ok (i := x) (by omega) hz).mono ?_
      rintro e w' ⟨m', F', rfl, p, a, S⟩
      rw [if_pos h1]
      exact ⟨m', _, F', rfl, p, a, S, LP.none⟩
    · refine (tTrim_no h t.root i h1).mono ?_
      rintro e w' ⟨F', rfl, S⟩
      rw [if_neg h1]
      exact ⟨m, _, F', rfl, hp, Alike.refl m, S, LP.none⟩
  all := fun h hp _ ok st hst => tAll_ok h hp ok st hst
  blocks := fun h hp _ ok => tBlocks_ok h hp ok
end Go.Proofs.Ytgdefibkemkejaa
