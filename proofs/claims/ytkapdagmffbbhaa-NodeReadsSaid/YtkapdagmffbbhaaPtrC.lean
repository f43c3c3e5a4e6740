/- The pointer of bytes: the program's Read and the document's. -/
import Derived.Test.YtkapdagmffbbhaaPtrB
import Derived.Test.YtkapdagmffbbhaaRow
import Derived.Test.YtkapdagmffbbhaaRes
namespace Go.Proofs.Ytkapdagmffbbhaa
open Go.ChangeShapes Go.WideShapes Go.ChangeAt Go.RowKit
set_option linter.unusedVariables false
set_option maxRecDepth 20000
set_option linter.unusedSimpArgs false

/-- the parts of sixteen bytes -/
def p3Of (bs : List UInt8) : P3 := ⟨(valB (bs.take 4) : Nat), valB ((bs.drop 4).take 8), valB (bs.drop 12)⟩
def p3O (bs : List UInt8) : Option P3 := if bs.length = 16 ∧ (p3Of bs).rightB = true then some (p3Of bs) else none

theorem p3Of_fit {bs : List UInt8} (h : bs.length = 16) : valB (bs.take 4) < 4294967296 ∧ valB ((bs.drop 4).take 8) < 18446744073709551616 ∧ valB (bs.drop 12) < 4294967296 := by
  have h1 := valB_lt (bs.take 4)
  have h2 := valB_lt ((bs.drop 4).take 8)
  have h3 := valB_lt (bs.drop 12)
  have e1 : (bs.take 4).length = 4 := by simp; omega
  have e2 : ((bs.drop 4).take 8).length = 8 := by simp; omega
  have e3 : (bs.drop 12).length = 4 := by simp; omega
  rw [e1] at h1; rw [e2] at h2; rw [e3] at h3
  exact ⟨h1, h2, h3⟩

theorem P3.fit_of {bs : List UInt8} (h : bs.length = 16) : (p3Of bs).Fit := by
  obtain ⟨h1, h2, h3⟩ := p3Of_fit h
  refine ⟨⟨?_, ?_⟩, h2, h3⟩
  · show (-9223372036854775808 : Int) ≤ ((valB (bs.take 4) : Nat) : Int)
    omega
  · show ((valB (bs.take 4) : Nat) : Int) ≤ 9223372036854775807
    omega

theorem getL_ptr (bs : List UInt8) : getL [4, 8, 4] bs = if bs.length = 16 then some [valB (bs.take 4), valB ((bs.drop 4).take 8), valB (bs.drop 12)] else none := by
  split
  · rename_i h
    have hd : (bs.drop 12).take 4 = bs.drop 12 := by rw [List.take_of_length_le (by simp; omega)]
    have he : bs.drop 16 = [] := List.drop_of_length_le (by omega)
    simp [getL, h, hd, he]
  · rename_i h
    exact getL_bad (.inr (by simpa [sumW] using h))

def p3L (p : P3) : List Value := [.int .i64 p.a, .int .u64 (p.b : Int), .int .u32 (p.s : Int)]
theorem p3L_length (p : P3) : (p3L p).length = 3 := rfl
theorem p3L_one (p : P3) : ∀ v ∈ p3L p, v.oneCell' = true := by
  intro v hv
  simp only [p3L, List.mem_cons, List.not_mem_nil, or_false] at hv
  rcases hv with rfl | rfl | rfl <;> rfl
theorem infoPtr (p : P3) : (Try.prog.info? 30).map (·.size) = some (p3L p).length := by
  rw [p3L_length]; kernel_rfl

theorem rowPtr {w : World} {g : Nat} {p : P3} (h : Blk w g 30 (p3L p)) : RowRes Try.prog w 30 (.pointer (some ⟨g, 0, none⟩)) (p3L p) :=
  ⟨⟨g, _, rfl, h⟩, ⟨_, Try.underlying30, rfl⟩, infoPtr p⟩
theorem U64s.three {w : World} {ao : Option Addr} {x y z : Nat} (h : U64s w ao [x, y, z]) : ∃ b off, ao = some ⟨b, off, none⟩ ∧ b < w.heap.size ∧ w.cell? ⟨b, off, none⟩ = some (.int .u64 (x : Int)) ∧ w.cell? ⟨b, off + 1, none⟩ = some (.int .u64 (y : Int)) ∧ w.cell? ⟨b, off + 2, none⟩ = some (.int .u64 (z : Int)) := by
  obtain ⟨b, off, rfl, h0, hb⟩ := Reads.at h (k := 0) (by simp [u64V])
  obtain ⟨b', off', e1, h1, _⟩ := Reads.at h (k := 1) (by simp [u64V])
  obtain ⟨b'', off'', e2, h2, _⟩ := Reads.at h (k := 2) (by simp [u64V])
  cases e1
  cases e2
  exact ⟨b, off, rfl, hb, h0, h1, h2⟩
theorem GetRes.three {o : Option (List Nat)} {w w' : World} {e : Ending} (h : GetRes o w e w') {x y z : Nat} (ho : o = some [x, y, z]) : ∃ (b off cap : Nat), e = .returned (.tuple #[.slice (some ⟨b, off, none⟩) 3 cap, .int .i64 0]) ∧ b < w'.heap.size ∧ w'.cell? ⟨b, off, none⟩ = some (.int .u64 (x : Int)) ∧ w'.cell? ⟨b, off + 1, none⟩ = some (.int .u64 (y : Int)) ∧ w'.cell? ⟨b, off + 2, none⟩ = some (.int .u64 (z : Int)) ∧ Below w.heap.size w w' := by
  obtain ⟨ao, cap, rfl, h1, h2⟩ := h.yes ho
  obtain ⟨b, off, rfl, h3⟩ := h1.out.three
  exact ⟨b, off, cap, rfl, h3.1, h3.2.1, h3.2.2.1, h3.2.2.2, h2⟩

/-- what a Read answers -/
def RRes (n : Int) (o : Option P3) (w : World) (e : Ending) (w' : World) : Prop :=
  e = .returned (.tuple #[p3V (o.getD p3z), .int .i64 (errI n o)]) ∧ Below w.heap.size w w'

theorem get_484 {g : Nat} (bo : Option Addr) (cap n : Nat) (bs : List UInt8) (w : World) (hx : Reads w (some ⟨g, 0, none⟩) [.int .i64 4, .int .i64 8, .int .i64 4]) (hy : Bytes w bo bs) (hn : bs.length = n) (hc : n ≤ cap) (hm : cap ≤ 9223372036854775807) :
    Calls Try.prog 30 #[.slice (some ⟨g, 0, none⟩) 3 3, .slice bo n cap] w (GetRes (getL [4, 8, 4] bs) w) := by
  subst hn
  exact Get_any (some ⟨g, 0, none⟩) bo 3 cap [4, 8, 4] bs w hx hy ints_484 hc hm

set_option maxHeartbeats 2000000 in
theorem pRead_any (bo : Option Addr) (cap : Nat) (bs : List UInt8) (w : World) (hy : Bytes w bo bs) (hc : bs.length ≤ cap) (hm : cap ≤ 9223372036854775807) :
    Calls Try.prog 23 #[.slice bo bs.length cap] w (RRes 51 (p3O bs) w) := by
  have hy := Lib.hid hy
  have hW : Hid (Below w.heap.size w ((w.alloc (.cells #[.int .i64 0, .int .u64 0, .int .u32 0] 30)).alloc (.cells #[.int .i64 4, .int .i64 8, .int .i64 4] 3))) := Lib.hid (((Below.refl _ _).alloc (Nat.le_refl _) _).alloc (by simp) _)
  have hg := getL_ptr bs
  by_cases h16 : bs.length = 16
  · rw [if_pos h16] at hg
    obtain ⟨x4, y8, z4⟩ := p3Of_fit h16
    have hx : Hid (p3Of bs = ⟨(valB (bs.take 4) : Nat), valB ((bs.drop 4).take 8), valB (bs.drop 12)⟩) := Lib.hid rfl
    have hO : Hid (p3O bs = if (p3Of bs).rightB = true then some (p3Of bs) else none) := Lib.hid (by unfold p3O; simp [h16])
    generalize valB (bs.take 4) = x at *
    generalize valB ((bs.drop 4).take 8) = y at *
    generalize valB (bs.drop 12) = z at *
    have hn := Lib.hid h16
    rw [h16] at hc ⊢
    clear h16
    have hg := Lib.hid hg
    have hi := hx.out
    have hR := fun W => pRight_any (x : Int) y z W ⟨⟨by dsimp only; omega, by dsimp only; omega⟩, y8, z4⟩
    have hR := Lib.hid hR
    clear hi
    go_enter Try.func23, Try.ntmps23
    go_wp2_with (first | (go_at_call 27; refine (widths_any _).mono ?_; rintro e w' ⟨rfl, rfl⟩))
    refine (get_484 bo cap 16 bs _ (Reads.row (new_b _ _ _)) (hy.out.below ((hW.out).mono (Nat.le_refl _))) hn.out hc hm).mono ?_
    intro e w2 hR2
    obtain ⟨b, off, ca, rfl, hbl, d0, d1, d2, hb2⟩ := hR2.three hg.out
    have hblk : Blk w2 w.heap.size 30 (p3L p3z) := by
      unfold Blk
      rw [hb2.block _ (by simp; omega)]
      exact new_c _ _ _
    have hs2 : w.heap.size + 2 ≤ w2.heap.size := by have := hb2.size; simp at this; omega
    have hb2 := Lib.hid (hW.out.trans (hb2.mono (by simp; omega)))
    have hblk := Lib.hid hblk
    go_wp2
    go_region_held3 (fun w' => w'.cell? ⟨b, off, none⟩ = some (.int .u64 (x : Int)) ∧ w'.cell? ⟨b, off + 1, none⟩ = some (.int .u64 (y : Int)) ∧ w'.cell? ⟨b, off + 2, none⟩ = some (.int .u64 (z : Int))) (first | go_keep | exact hkk) (fail)
    rw [IntWalk.i64_in (x : Int) (by omega), IntWalk.u32_in (z : Int) (by omega)]
    have hq := Lib.hid (hb2.out.alloc (by omega) (.cells #[.int .i64 (x : Int), .int .u64 (y : Int), .int .u32 (z : Int)] 30))
    have hP := Lib.hid (Blk.newA w2 30 #[.int .i64 (x : Int), .int .u64 (y : Int), .int .u32 (z : Int)])
    have hT := Lib.hid (hblk.out.alloc (.cells #[.int .i64 (x : Int), .int .u64 (y : Int), .int .u32 (z : Int)] 30))
    have hs3 : Hid ((w2.alloc (.cells #[.int .i64 (x : Int), .int .u64 (y : Int), .int .u32 (z : Int)] 30)).heap.size = w2.heap.size + 1) := Lib.hid (by simp)
    clear d0 d1 d2 hblk hb2
    go_wp2_with fail
    refine (hR.out _).mono ?_
    rintro e w3 ⟨rfl, hb3⟩
    have hP3 : Blk w3 w2.heap.size 30 [.int .i64 (x : Int), .int .u64 (y : Int), .int .u32 (z : Int)] := hP.out.drew.below hb3 (by have := hs3.out; simp at this ⊢)
    have hT3 : Blk w3 w.heap.size 30 (p3L p3z) := hT.out.drew.below hb3 (by have := hs3.out; simp at this ⊢; omega)
    have c0 := hP3.cell 0
    have c1 := hP3.cell 1
    have c2 := hP3.cell 2
    simp at c0 c1 c2
    have e0 := hT3.cell 0
    have e1 := hT3.cell 1
    have e2 := hT3.cell 2
    simp [p3L, p3z] at e0 e1 e2
    have f0 := hT3.frozen 0
    have f1 := hT3.frozen 1
    have f2 := hT3.frozen 2
    have hb3 := Lib.hid (hq.out.drew.trans (hb3.mono (by have := hs3.out; simp at this ⊢; omega)))
    have hl3 : w.heap.size < w3.heap.size := hT3.lt
    have hT3 := Lib.hid hT3
    clear hP3 hP hT hq hR
    cases hr : P3.rightB ⟨(x : Int), y, z⟩ with
    | false =>
      have hno : Hid (p3O bs = none) := Lib.hid (by rw [hO.out, hx.out, hr]; rfl)
      clear hr
      go_wp2
      have hz : Hid (Blk _ w.heap.size 30 (p3L p3z)) := Lib.hid (((hT3.out.set 0 (.int .i64 0)).set 1 (.int .u64 0)).set 2 (.int .u32 0))
      refine bodyPost_ret (results_row_tmp rfl (rowPtr hz.out)) rfl ?_
      rw [RRes, hno.out]
      exact ⟨rfl, ((hb3.out.setCell (by simp) _).setCell (by simp) _).setCell (by simp) _⟩
    | true =>
      have hyes : Hid (p3O bs = some ⟨(x : Int), y, z⟩) := Lib.hid (by rw [hO.out, hx.out, hr]; rfl)
      clear hr
      go_wp2
      have hz : Hid (Blk _ w.heap.size 30 (p3L ⟨(x : Int), y, z⟩)) := Lib.hid (((hT3.out.set 0 (.int .i64 (x : Int))).set 1 (.int .u64 (y : Int))).set 2 (.int .u32 (z : Int)))
      refine bodyPost_ret (results_row_tmp rfl (rowPtr hz.out)) rfl ?_
      rw [RRes, hyes.out]
      exact ⟨rfl, ((hb3.out.setCell (by simp) _).setCell (by simp) _).setCell (by simp) _⟩
  · rw [if_neg h16] at hg
    have hg := Lib.hid hg
    have hno : Hid (p3O bs = none) := Lib.hid (by unfold p3O; rw [if_neg (fun h => h16 h.1)])
    generalize hn : bs.length = n at *
    have hn := Lib.hid hn
    go_enter Try.func23, Try.ntmps23
    go_wp2_with (first | (go_at_call 27; refine (widths_any _).mono ?_; rintro e w' ⟨rfl, rfl⟩))
    refine (get_484 bo cap n bs _ (Reads.row (new_b _ _ _)) (hy.out.below ((hW.out).mono (Nat.le_refl _))) hn.out hc hm).mono ?_
    intro e w2 hR
    obtain ⟨ao, ca, rfl, hb2⟩ := hR.nope hg.out
    have hblk : Blk w2 w.heap.size 30 (p3L p3z) := by
      unfold Blk
      rw [hb2.block _ (by simp; omega)]
      exact new_c _ _ _
    have c0 := hblk.cell 0
    have c1 := hblk.cell 1
    have c2 := hblk.cell 2
    have f0 := hblk.frozen 0
    have f1 := hblk.frozen 1
    have f2 := hblk.frozen 2
    simp [p3L, p3z] at c0 c1 c2
    have hb2 := Lib.hid (hW.out.trans (hb2.mono (by simp; omega)))
    have hblk := Lib.hid hblk
    go_wp2
    have hz : Hid (Blk _ w.heap.size 30 (p3L p3z)) := Lib.hid (((hblk.out.set 0 (.int .i64 0)).set 1 (.int .u64 0)).set 2 (.int .u32 0))
    refine bodyPost_ret (results_row_tmp rfl (rowPtr hz.out)) rfl ?_
    rw [RRes, hno.out]
    exact ⟨rfl, ((hb2.out.setCell (by simp) _).setCell (by simp) _).setCell (by simp) _⟩

set_option maxHeartbeats 2000000 in
theorem pRefRead_any (bo : Option Addr) (cap : Nat) (bs : List UInt8) (w : World) (hy : Bytes w bo bs) (hc : bs.length ≤ cap) (hm : cap ≤ 9223372036854775807) :
    Calls Try.prog 24 #[.slice bo bs.length cap] w (RRes 51 (p3O bs) w) := by
  have hy := Lib.hid hy
  have hT : Hid (Blk (w.alloc (.cells #[.int .i64 0, .int .u64 0, .int .u32 0] 30)) w.heap.size 30 (p3L p3z)) := Lib.hid (Blk.newA w 30 #[.int .i64 0, .int .u64 0, .int .u32 0])
  have hW := Lib.hid ((Below.refl w.heap.size w).alloc (Nat.le_refl _) (.cells #[.int .i64 0, .int .u64 0, .int .u32 0] 30))
  by_cases h16 : bs.length = 16
  · obtain ⟨x4, y8, z4⟩ := p3Of_fit h16
    have hx : Hid (p3Of bs = ⟨(valB (bs.take 4) : Nat), valB ((bs.drop 4).take 8), valB (bs.drop 12)⟩) := Lib.hid rfl
    have hO : Hid (p3O bs = if (p3Of bs).rightB = true then some (p3Of bs) else none) := Lib.hid (by unfold p3O; simp [h16])
    have v1 := fun W (h : Bytes W bo bs) => refValue_n bo cap bs 4 W h (by omega) (by omega)
    have v2 := fun W (h : Bytes W bo bs) => refValue_n (shiftA bo cap 4) (cap - 4) (bs.drop 4) 8 W (h.shift hc) (by simp; omega) (by omega)
    have v3 := fun W (h : Bytes W bo bs) => refValue_n (shiftA bo cap 12) (cap - 12) (bs.drop 12) 4 W (h.shift hc) (by simp; omega) (by omega)
    have e3 : (bs.drop 12).take 4 = bs.drop 12 := List.take_of_length_le (by simp; omega)
    rw [e3] at v3
    clear e3
    generalize valB (bs.take 4) = x at *
    generalize valB ((bs.drop 4).take 8) = y at *
    generalize valB (bs.drop 12) = z at *
    have hn := Lib.hid h16
    rw [h16] at hc ⊢
    clear h16
    have q1 : ∀ w, (Instr.slice 46 (.slice bo 16 cap) none (some (.int .i64 4)) none).run Try.prog w = .ok (.slice bo 4 cap) w := fun w => run_cut_h (P := Try.prog) 46 5 Try.underlying46 cells5 bo 16 cap 4 (by omega) w
    have q2 : ∀ w, (Instr.slice 46 (.slice bo 16 cap) (some (.int .i64 4)) (some (.int .i64 12)) none).run Try.prog w = .ok (.slice (shiftA bo cap 4) 8 (cap - 4)) w := fun w => run_cut_lh (P := Try.prog) 46 5 Try.underlying46 cells5 bo 16 cap 4 12 (by omega) (by omega) w
    have q3 : ∀ w, (Instr.slice 46 (.slice bo 16 cap) (some (.int .i64 12)) none none).run Try.prog w = .ok (.slice (shiftA bo cap 12) 4 (cap - 12)) w := fun w => run_cut_l (P := Try.prog) 46 5 Try.underlying46 cells5 bo 16 cap 12 (by omega) w
    have v1 := Lib.hid v1
    have v2 := Lib.hid v2
    have v3 := Lib.hid v3
    have hR := fun W => pRefRight_any (x : Int) y z W ⟨⟨by dsimp only; omega, by dsimp only; omega⟩, y8, z4⟩
    have hR := Lib.hid hR
    go_enter Try.func24, Try.ntmps24
    go_wp2
    go_region_held3 (fun w' => True) (trivial) (first | (go_at_call 31; (first | (with_reducible refine (v1.out _ ?_).mono ?_) | (with_reducible refine (v2.out _ ?_).mono ?_) | (with_reducible refine (v3.out _ ?_).mono ?_)); (first | exact Reads.below hy.out hW.out.drew | exact Reads.below hy.out (hW.out.alloc (by simp) _).drew); rintro e w' ⟨rfl, rfl⟩))
    all_goals
      rw [IntWalk.i64_in (x : Int) (by omega), IntWalk.u32_in (z : Int) (by omega)]
      have hq := Lib.hid (hW.out.alloc (by simp) (.cells #[.int .i64 (x : Int), .int .u64 (y : Int), .int .u32 (z : Int)] 30))
      have hP' : Hid (Blk _ (w.heap.size + 1) 30 [.int .i64 (x : Int), .int .u64 (y : Int), .int .u32 (z : Int)]) := Lib.hid (by have h := Blk.newA (w.alloc (.cells #[.int .i64 0, .int .u64 0, .int .u32 0] 30)) 30 #[.int .i64 (x : Int), .int .u64 (y : Int), .int .u32 (z : Int)]; simpa using h)
      have hT' := Lib.hid (hT.out.alloc (.cells #[.int .i64 (x : Int), .int .u64 (y : Int), .int .u32 (z : Int)] 30))
      have hs3 : Hid (((w.alloc (.cells #[.int .i64 0, .int .u64 0, .int .u32 0] 30)).alloc (.cells #[.int .i64 (x : Int), .int .u64 (y : Int), .int .u32 (z : Int)] 30)).heap.size = w.heap.size + 2) := Lib.hid (by simp)
      go_wp2_with fail
      refine (hR.out _).mono ?_
      rintro e w3 ⟨rfl, hb3⟩
      have hP3 : Blk w3 (w.heap.size + 1) 30 [.int .i64 (x : Int), .int .u64 (y : Int), .int .u32 (z : Int)] := hP'.out.drew.below hb3 (by have := hs3.out; simp at this ⊢)
      have hT3 : Blk w3 w.heap.size 30 (p3L p3z) := hT'.out.drew.below hb3 (by have := hs3.out; simp at this ⊢; omega)
      have c0 := hP3.cell 0
      have c1 := hP3.cell 1
      have c2 := hP3.cell 2
      simp at c0 c1 c2
      have e0 := hT3.cell 0
      have e1 := hT3.cell 1
      have e2 := hT3.cell 2
      simp [p3L, p3z] at e0 e1 e2
      have f0 := hT3.frozen 0
      have f1 := hT3.frozen 1
      have f2 := hT3.frozen 2
      have hb3 := Lib.hid (hq.out.drew.trans (hb3.mono (by have := hs3.out; simp at this ⊢; omega)))
      have hl3 : w.heap.size < w3.heap.size := hT3.lt
      have hT3 := Lib.hid hT3
      clear hP3 hP' hT' hq hR
      cases hr : P3.rightB ⟨(x : Int), y, z⟩ with
      | false =>
        have hno : Hid (p3O bs = none) := Lib.hid (by rw [hO.out, hx.out, hr]; rfl)
        clear hr
        go_wp2
        have hz : Hid (Blk _ w.heap.size 30 (p3L p3z)) := Lib.hid (((hT3.out.set 0 (.int .i64 0)).set 1 (.int .u64 0)).set 2 (.int .u32 0))
        refine bodyPost_ret (results_row_tmp rfl (rowPtr hz.out)) rfl ?_
        rw [RRes, hno.out]
        exact ⟨rfl, ((hb3.out.setCell (by simp) _).setCell (by simp) _).setCell (by simp) _⟩
      | true =>
        have hyes : Hid (p3O bs = some ⟨(x : Int), y, z⟩) := Lib.hid (by rw [hO.out, hx.out, hr]; rfl)
        clear hr
        go_wp2
        have hz : Hid (Blk _ w.heap.size 30 (p3L ⟨(x : Int), y, z⟩)) := Lib.hid (((hT3.out.set 0 (.int .i64 (x : Int))).set 1 (.int .u64 (y : Int))).set 2 (.int .u32 (z : Int)))
        refine bodyPost_ret (results_row_tmp rfl (rowPtr hz.out)) rfl ?_
        rw [RRes, hyes.out]
        exact ⟨rfl, ((hb3.out.setCell (by simp) _).setCell (by simp) _).setCell (by simp) _⟩
  · have hno : Hid (p3O bs = none) := Lib.hid (by unfold p3O; rw [if_neg (fun h => h16 h.1)])
    generalize hn : bs.length = n at *
    have hn := Lib.hid hn
    have hne : ((n : Int) == 16) = false := by simp; omega
    have hne' : ((n : Int) != 16) = true := by simp; omega
    go_enter Try.func24, Try.ntmps24
    go_wp2
    refine bodyPost_ret (results_row_tmp rfl (rowPtr hT.out)) rfl ?_
    rw [RRes, hno.out]
    exact ⟨rfl, hW.out⟩
end Go.Proofs.Ytkapdagmffbbhaa
