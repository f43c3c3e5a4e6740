/- slog.read answers the move of any five bytes. -/
import Derived.Test.YtlbglcmajbhflaaSlogH
import Derived.Test.YtlbglcmajbhflaaCall
namespace Go.Proofs.Ytlbglcmajbhflaa
open Go.ChangeShapes Go.WideShapes Go.ChangeAt Go.RowKit
set_option linter.unusedVariables false
set_option maxRecDepth 20000

theorem two_b (w : World) (A B : Obj) : ((w.alloc A).alloc B).heap[w.heap.size + 1]? = some B := by
  have := heap_alloc_new (w.alloc A) B
  simpa using this
/-- what a read answers -/
def OneRes (o : Option (Bool × Int × Int)) (w : World) (e : Ending) (w' : World) : Prop :=
  (match o with
    | some (t, s, n) => e = .returned (.tuple #[.agg #[.bool t, .int .i64 s, .int .i64 n], .bool true])
    | none => e = .returned (.tuple #[.agg #[.bool false, .int .i64 0, .int .i64 0], .bool false])) ∧ Below w.heap.size w w'

theorem get_three {b : List UInt8} (h : b.length = 5) {w w' : World} {e : Ending} (hR : GetRes (getL [1, 2, 2] b) w e w') :
    ∃ g off cap, e = .returned (.tuple #[.slice (some ⟨g, off, none⟩) 3 cap, .int .i64 0]) ∧ w.heap.size ≤ g ∧ g < w'.heap.size ∧ w'.cell? ⟨g, off, none⟩ = some (.int .u64 (valB (b.take 1) : Nat)) ∧ w'.cell? ⟨g, off + 1, none⟩ = some (.int .u64 (valB ((b.drop 1).take 2) : Nat)) ∧
      w'.cell? ⟨g, off + 2, none⟩ = some (.int .u64 (valB ((b.drop 3).take 2) : Nat)) ∧ Below w.heap.size w w' := by
  rw [get_five h] at hR
  obtain ⟨v, rfl, hv, hb⟩ := hR
  obtain ⟨vo, vc, rfl, _, _, _, h4, h5, _⟩ := hv.shape
  obtain ⟨g, off, rfl, c0⟩ := h4 0 (by simp [u64V])
  obtain ⟨g1, off1, e1, c1⟩ := h4 1 (by simp [u64V])
  obtain ⟨g2, off2, e2, c2⟩ := h4 2 (by simp [u64V])
  cases e1; cases e2
  have := h5 _ rfl
  refine ⟨g, off, vc, ?_, this.1, this.2, c0, c1, c2, hb⟩
  simp [u64V, errN]

theorem box_range {w : World} {b : Nat} {t : Bool} {s n : Int} (h : BoxM w b t s n) : w.rangeAt b 0 [.bool t, .int .i64 s, .int .i64 n] := fun j v hv => by
  rw [Nat.zero_add]
  match j, hv with
  | 0, hv => cases hv; exact h.c0
  | 1, hv => cases hv; exact h.c1
  | 2, hv => cases hv; exact h.c2
  | (j + 3), hv => simp at hv
/-- a move's cells that may be written -/
structure BoxF (w : World) (b : Nat) (t : Bool) (s n : Int) : Prop where
  c0 : w.cell? ⟨b, 0, none⟩ = some (.bool t)
  c1 : w.cell? ⟨b, 1, none⟩ = some (.int .i64 s)
  c2 : w.cell? ⟨b, 2, none⟩ = some (.int .i64 n)
  f0 : w.frozen? ⟨b, 0, none⟩ = false
  f1 : w.frozen? ⟨b, 1, none⟩ = false
  f2 : w.frozen? ⟨b, 2, none⟩ = false
theorem BoxF.new (w : World) (t : Bool) (s n : Int) : BoxF (w.alloc (.cells #[.bool t, .int .i64 s, .int .i64 n] 55)) w.heap.size t s n := ⟨by simp, by simp, by simp, by simp, by simp, by simp⟩
theorem BoxF.below {w w' : World} {b : Nat} {t : Bool} {s n : Int} (h : BoxF w b t s n) (hb : Below w.heap.size w w') : BoxF w' b t s n :=
  ⟨(hb.cell (cell_lt h.c0)).trans h.c0, (hb.cell (cell_lt h.c1)).trans h.c1, (hb.cell (cell_lt h.c2)).trans h.c2,
   (hb.frozen (p := ⟨b, 0, none⟩) (cell_lt h.c0)).trans h.f0, (hb.frozen (p := ⟨b, 1, none⟩) (cell_lt h.c1)).trans h.f1, (hb.frozen (p := ⟨b, 2, none⟩) (cell_lt h.c2)).trans h.f2⟩

set_option maxHeartbeats 4000000 in
theorem mread_any (bo : Option Addr) (rc : Nat) (bs : List UInt8) (w : World) (hx : Bytes w bo bs) (hl : bs.length = 5) (hc : 5 ≤ rc) (hm : rc ≤ 9223372036854775807) :
    Calls Try.prog 36 #[.slice bo 5 rc] w (OneRes (oneM bs) w) := by
  have hG := fun W ao cap (h : Below w.heap.size w W) (hi : Ints W ao [1, 2, 2]) => Get_any ao bo cap rc [1, 2, 2] bs W hi (Reads.below hx h) ints_122 (by omega) hm
  rw [hl] at hG
  have hG := Lib.hid hG
  have hk := valB_lt (bs.take 1)
  have hs := valB_lt ((bs.drop 1).take 2)
  have hn := valB_lt ((bs.drop 3).take 2)
  rw [show (bs.take 1).length = 1 from by simp; omega] at hk
  rw [show ((bs.drop 1).take 2).length = 2 from by simp; omega] at hs
  rw [show ((bs.drop 3).take 2).length = 2 from by simp; omega] at hn
  have hone : oneM bs = if valB (bs.take 1) ≤ 1 ∧ withinB (valB ((bs.drop 1).take 2) : Nat) (valB ((bs.drop 3).take 2) : Nat) = true then some (valB (bs.take 1) == 1, ((valB ((bs.drop 1).take 2) : Nat) : Int), ((valB ((bs.drop 3).take 2) : Nat) : Int)) else none := rfl
  have hT := Lib.hid (fun (W W' : World) (e : Ending) (hR : GetRes (getL [1, 2, 2] bs) W e W') => get_three hl hR)
  generalize oneM bs = O at *
  clear hx
  generalize valB (bs.take 1) = k at *
  generalize valB ((bs.drop 1).take 2) = s at *
  generalize valB ((bs.drop 3).take 2) = n at *
  simp only [Nat.reducePow] at hk hs hn
  have hone' := Lib.hid hone
  clear hone
  have hB0 := Lib.hid ((Below.refl w.heap.size w).alloc (Nat.le_refl _) (.cells #[.bool false, .int .i64 0, .int .i64 0] 55))
  have hB1 := Lib.hid (hB0.out.alloc hB0.out.size (.cells #[.int .i64 1, .int .i64 2, .int .i64 2] 3))
  have hbox := Lib.hid ((BoxF.new w false 0 0).below ((Below.refl _ _).alloc (Nat.le_refl _) (.cells #[.int .i64 1, .int .i64 2, .int .i64 2] 3)))
  go_enter Try.func36, Try.ntmps36
  go_wp2_with fail
  refine (mWidths_any _).mono ?_
  rintro e w1 ⟨rfl, rfl⟩
  go_wp2_with fail
  refine (hG.out _ _ 3 hB1.out (reads_row (by exact two_b _ _ _))).mono ?_
  intro e w2 hR
  obtain ⟨g, off, cap, rfl, hg1, hg2, c0, c1, c2, hb2⟩ := hT.out _ _ _ hR
  have hbox2 := Lib.hid (hbox.out.below hb2)
  simp only [World.size_alloc] at hg1
  have hsz2 := hb2.size
  simp only [World.size_alloc] at hsz2
  have hb2 := Lib.hid (hB1.out.trans (hb2.mono hB1.out.size))
  clear hR
  go_wp2
  go_region_held3 (fun w' => w'.cell? ⟨g, off, none⟩ = some (.int .u64 (k : Int)) ∧ w'.cell? ⟨g, off + 1, none⟩ = some (.int .u64 (s : Int)) ∧ w'.cell? ⟨g, off + 2, none⟩ = some (.int .u64 (n : Int))) (go_keep) (fail)
  have hw1 : IntKind.i64.wrap (s : Int) = s := by rw [IntKind.wrap_i64]; omega
  have hw2 : IntKind.i64.wrap (n : Int) = n := by rw [IntKind.wrap_i64]; omega
  rw [hw1, hw2]
  generalize hT : ((k : Int) == 1) = T
  obtain ⟨w3, hw3⟩ : ∃ w3 : World, w3 = (w2.alloc (.cells #[.bool T, .int .i64 (s : Int), .int .i64 (n : Int)] 55)).drew := ⟨_, rfl⟩
  rw [← hw3]
  have F : BoxM w3 w2.heap.size T s n ∧ w3.cell? ⟨g, off, none⟩ = some (.int .u64 (k : Int)) ∧ BoxF w3 w.heap.size false 0 0 ∧ Below w.heap.size w w3 ∧ w2.heap.size < w3.heap.size := by
    subst hw3
    exact ⟨(BoxM.new w2 T s n).below ((Below.refl _ _).drew), cell_alloc c0 _, hbox2.out.below (((Below.refl w2.heap.size w2).alloc (Nat.le_refl _) _).drew), (hb2.out.alloc hb2.out.size _).drew, by simp⟩
  obtain ⟨F1, F2, F3, hb3, hz3⟩ := F
  clear hw3 c0 c1 c2 hbox hbox2 hb2 hB0 hB1 hG
  obtain ⟨b, hbe⟩ : ∃ b : Nat, b = w2.heap.size := ⟨_, rfl⟩
  rw [← hbe] at F1 hz3 hg2 ⊢
  have hwb : w.heap.size < b := by omega
  clear hbe hsz2
  obtain ⟨m0, m1, m2⟩ := F1
  have hb3 := Lib.hid hb3
  have F3 := Lib.hid F3
  have hM := fun W => mRight_any T s n W (by omega) (by omega) (by omega) (by omega)
  by_cases hk1 : k ≤ 1
  · have hne : ((k : Int) != (kindN T : Nat)) = false := by
      rcases (show k = 0 ∨ k = 1 from by omega) with rfl | rfl
      · subst hT; rfl
      · subst hT; rfl
    have hTk : T = (k == 1) := by
      rcases (show k = 0 ∨ k = 1 from by omega) with rfl | rfl
      · subst hT; rfl
      · subst hT; rfl
    cases hw : withinB s n
    · have hO : Hid (O = none) := Lib.hid (by rw [hone'.out, if_neg (by rw [hw]; simp)])
      rw [hw] at hM
      have hM := Lib.hid hM
      clear hw hTk
      go_wp2
      go_region_held3 (fun w' => w'.cell? ⟨g, off, none⟩ = some (.int .u64 (k : Int)) ∧ w'.cell? ⟨b, 0, none⟩ = some (.bool T) ∧ w'.cell? ⟨b, 1, none⟩ = some (.int .i64 s) ∧ w'.cell? ⟨b, 2, none⟩ = some (.int .i64 n)) (first | exact hkk | go_keep)
        (first
          | (go_at_call 35; refine (mKind_exact T _ _ _).mono ?_; rintro e w' ⟨rfl, rfl⟩)
          | (go_at_call 25
             refine (hM.out _).mono ?_
             rintro e w5 ⟨rfl, hb5⟩
             have hkk : w5.cell? ⟨g, off, none⟩ = some (.int .u64 (k : Int)) ∧ w5.cell? ⟨b, 0, none⟩ = some (.bool T) ∧ w5.cell? ⟨b, 1, none⟩ = some (.int .i64 s) ∧ w5.cell? ⟨b, 2, none⟩ = some (.int .i64 n) :=
               ⟨(hb5.cell (p := ⟨g, off, none⟩) (by simp; omega)).trans (cell_alloc F2 _), (hb5.cell (p := ⟨b, 0, none⟩) (by simp; omega)).trans (cell_alloc m0 _), (hb5.cell (p := ⟨b, 1, none⟩) (by simp; omega)).trans (cell_alloc m1 _), (hb5.cell (p := ⟨b, 2, none⟩) (by simp; omega)).trans (cell_alloc m2 _)⟩
             have hb6 := (((Below.refl w3.heap.size w3).alloc (Nat.le_refl _) (.cells #[.bool T, .int .i64 (s : Int), .int .i64 (n : Int)] 55)).drew).trans (hb5.mono (by simp))
             have F5 := F3.out.below hb6
             obtain ⟨p0, p1, p2, q0, q1, q2⟩ := F5
             have hb7 := Lib.hid (hb3.out.trans (hb6.mono hb3.out.size))
             clear hb5 hb6))
      all_goals
        obtain ⟨x0, x1, x2, x3⟩ := hkk
        go_wp2
        refine bodyPost_ret (v := .tuple #[.agg #[.bool false, .int .i64 0, .int .i64 0], .bool false]) (by simp [results, Try.results36, go_sem, p0, p1, p2]) rfl ?_
        rw [hO.out]
        exact ⟨rfl, ((hb7.out.setCell (by exact Nat.le_refl _) _).setCell (by exact Nat.le_refl _) _).setCell (by exact Nat.le_refl _) _⟩
    · have hO : Hid (O = some (T, (s : Int), (n : Int))) := Lib.hid (by rw [hone'.out, if_pos ⟨hk1, hw⟩, hTk])
      rw [hw] at hM
      have hM := Lib.hid hM
      clear hw hTk
      go_wp2
      go_region_held3 (fun w' => w'.cell? ⟨g, off, none⟩ = some (.int .u64 (k : Int)) ∧ w'.cell? ⟨b, 0, none⟩ = some (.bool T) ∧ w'.cell? ⟨b, 1, none⟩ = some (.int .i64 s) ∧ w'.cell? ⟨b, 2, none⟩ = some (.int .i64 n)) (first | exact hkk | go_keep)
        (first
          | (go_at_call 35; refine (mKind_exact T _ _ _).mono ?_; rintro e w' ⟨rfl, rfl⟩)
          | (go_at_call 25
             refine (hM.out _).mono ?_
             rintro e w5 ⟨rfl, hb5⟩
             have hkk : w5.cell? ⟨g, off, none⟩ = some (.int .u64 (k : Int)) ∧ w5.cell? ⟨b, 0, none⟩ = some (.bool T) ∧ w5.cell? ⟨b, 1, none⟩ = some (.int .i64 s) ∧ w5.cell? ⟨b, 2, none⟩ = some (.int .i64 n) :=
               ⟨(hb5.cell (p := ⟨g, off, none⟩) (by simp; omega)).trans (cell_alloc F2 _), (hb5.cell (p := ⟨b, 0, none⟩) (by simp; omega)).trans (cell_alloc m0 _), (hb5.cell (p := ⟨b, 1, none⟩) (by simp; omega)).trans (cell_alloc m1 _), (hb5.cell (p := ⟨b, 2, none⟩) (by simp; omega)).trans (cell_alloc m2 _)⟩
             have hb6 := (((Below.refl w3.heap.size w3).alloc (Nat.le_refl _) (.cells #[.bool T, .int .i64 (s : Int), .int .i64 (n : Int)] 55)).drew).trans (hb5.mono (by simp))
             have F5 := F3.out.below hb6
             obtain ⟨p0, p1, p2, q0, q1, q2⟩ := F5
             have hb7 := Lib.hid (hb3.out.trans (hb6.mono hb3.out.size))
             clear hb5 hb6))
      all_goals
        obtain ⟨x0, x1, x2, x3⟩ := hkk
        go_wp2
        refine bodyPost_ret (v := .tuple #[.agg #[.bool T, .int .i64 (s : Int), .int .i64 (n : Int)], .bool true]) (by simp [results, Try.results36, go_sem, p0, p1, p2]) rfl ?_
        rw [hO.out]
        exact ⟨rfl, ((hb7.out.setCell (by exact Nat.le_refl _) _).setCell (by exact Nat.le_refl _) _).setCell (by exact Nat.le_refl _) _⟩
  · have hO : Hid (O = none) := Lib.hid (by rw [hone'.out, if_neg (fun h => hk1 h.1)])
    have hne : ((k : Int) != (kindN T : Nat)) = true := by
      have hTf : T = false := by subst hT; simp; omega
      subst hTf
      simp [kindN]; omega
    clear hM
    go_wp2
    refine inO_region [(2, fun w' => w'.cell? ⟨g, off, none⟩ = some (.int .u64 (k : Int))), (3, fun w' => w'.rangeAt (b) (0) ([.bool T, .int .i64 (s : Int), .int .i64 (n : Int)]))] (by kernel_rfl) (Owed.cons (F2) (Owed.cons (box_range ⟨m0, m1, m2⟩) (Owed.nil _ _))) ?_
    refine inO_take 0 ⟨_, _, _, _, _, _⟩ (.slice (some ⟨g, off, none⟩) 3 cap) rfl (by kernel_rfl) (by kernel_rfl) (by kernel_rfl) (fun _ _ _ h => h) rfl (fun ww => exec_move (by rfl) (by rfl) ww) ?_
    simp only [Act.put, List.setIfInBounds_toArray, List.set_cons_zero, List.set_cons_succ]
    refine inO_take 1 ⟨_, _, _, _, _, _⟩ (.pointer (some ⟨g, off, none⟩)) rfl (by kernel_rfl) (by kernel_rfl) (by kernel_rfl) (fun _ _ _ h => h) rfl (fun ww => by go_simp) ?_
    simp only [Act.put, List.setIfInBounds_toArray, List.set_cons_zero, List.set_cons_succ]
    refine inO_load 2 ⟨_, _, _, _, _, _⟩ (.int .u64 (k : Int)) (fun w' => w'.cell? ⟨g, off, none⟩ = some (.int .u64 (k : Int))) rfl (by kernel_rfl) (by kernel_rfl) (by kernel_rfl) (fun _ _ _ h => h) rfl (.head _) (fun ww hw => by go_simp) ?_
    simp only [Act.put, List.setIfInBounds_toArray, List.set_cons_zero, List.set_cons_succ]
    refine inO_load 3 ⟨_, _, _, _, _, _⟩ (.agg ([.bool T, .int .i64 (s : Int), .int .i64 (n : Int)]).toArray) (fun w' => w'.rangeAt (b) (0) ([.bool T, .int .i64 (s : Int), .int .i64 (n : Int)])) rfl (by kernel_rfl) (by kernel_rfl) (by kernel_rfl) (fun _ _ _ h => h) rfl (.tail _ (.head _)) (fun ww hw => exec_load_mid _ _ (by rfl) _ _ (by rfl) _ _ hw Try.underlying55 rfl (by kernel_rfl)) ?_
    simp only [Act.put, List.setIfInBounds_toArray, List.set_cons_zero, List.set_cons_succ]
    refine inO_step 4 ⟨_, _, _, _, _, _⟩ rfl (by kernel_rfl) rfl (fun K hK => ?_)
    refine wp_call Try.func35 (by kernel_rfl) rfl _ _ rfl _ rfl _ (mKind_exact T _ _ _) fun e v h => ?_
    obtain ⟨rfl, rfl⟩ := h
    refine ⟨_, rfl, ?_⟩
    refine hK _ _ (Keeps.cons (fun h => cell_alloc h _) (Keeps.late (by kernel_rfl) (Keeps.nil _ _ _))) ?_
    clear hK K
    simp only [Act.put, List.setIfInBounds_toArray, List.set_cons_zero, List.set_cons_succ]
    refine inO_take 5 ⟨_, _, _, _, _, _⟩ (.bool true) rfl (by kernel_rfl) (by kernel_rfl) (by kernel_rfl) (fun _ _ _ h => h) rfl (fun ww => by go_simp) ?_
    simp only [Act.put, List.setIfInBounds_toArray, List.set_cons_zero, List.set_cons_succ]
    refine inO_take 6 ⟨_, _, _, _, _, _⟩ (.bool true) rfl (by kernel_rfl) (by kernel_rfl) (by kernel_rfl) (fun _ _ _ h => h) rfl (fun ww => exec_move (by rfl) (by rfl) ww) ?_
    simp only [Act.put, List.setIfInBounds_toArray, List.set_cons_zero, List.set_cons_succ]
    refine inO_pass 7 ⟨_, _, _, _, _, _⟩ rfl (by kernel_rfl) (by kernel_rfl) (by kernel_rfl) (fun _ _ _ h => h) rfl ?_
    simp only [Act.put, List.setIfInBounds_toArray, List.set_cons_zero, List.set_cons_succ]
    refine inO_pass 8 ⟨_, _, _, _, _, _⟩ rfl (by kernel_rfl) (by kernel_rfl) (by kernel_rfl) (fun _ _ _ h => h) rfl ?_
    simp only [Act.put, List.setIfInBounds_toArray, List.set_cons_zero, List.set_cons_succ]
    refine inO_pass 9 ⟨_, _, _, _, _, _⟩ rfl (by kernel_rfl) (by kernel_rfl) (by kernel_rfl) (fun _ _ _ h => h) rfl ?_
    simp only [Act.put, List.setIfInBounds_toArray, List.set_cons_zero, List.set_cons_succ]
    refine inO_take 10 ⟨_, _, _, _, _, _⟩ (.bool true) rfl (by kernel_rfl) (by kernel_rfl) (by kernel_rfl) (fun _ _ _ h => h) rfl (fun ww => by go_simp) ?_
    simp only [Act.put, List.setIfInBounds_toArray, List.set_cons_zero, List.set_cons_succ]
    refine inO_done (by kernel_rfl) ?_
    obtain ⟨w4, hw4⟩ : ∃ w4 : World, w4 = w3.drew.alloc (.cells #[.bool T, .int .i64 (s : Int), .int .i64 (n : Int)] 55) := ⟨_, rfl⟩
    rw [← hw4]
    have hb6 : Below w3.heap.size w3 w4 := by
      subst hw4
      exact ((Below.refl w3.heap.size w3).drew).alloc (by simp) _
    clear hw4
    obtain ⟨p0, p1, p2, q0, q1, q2⟩ := F3.out.below hb6
    have hb7 := Lib.hid (hb3.out.trans (hb6.mono hb3.out.size))
    clear hb6
    go_wp2
    refine bodyPost_ret (v := .tuple #[.agg #[.bool false, .int .i64 0, .int .i64 0], .bool false]) (by simp [results, Try.results36, go_sem, p0, p1, p2]) rfl ?_
    rw [hO.out]
    exact ⟨rfl, ((hb7.out.setCell (by exact Nat.le_refl _) _).setCell (by exact Nat.le_refl _) _).setCell (by exact Nat.le_refl _) _⟩
end Go.Proofs.Ytlbglcmajbhflaa
