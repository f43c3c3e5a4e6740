/- A map's turn and its three callers, Copy, New. -/
import Derived.Test.YthnncohkdgaipaaSlabB
namespace Go.Proofs.Ythnncohkdgaipaa
open Go.ChangeShapes Go.WideShapes Go.ChangeAt Go.RowKit
set_option linter.unusedVariables false
set_option maxRecDepth 20000

theorem canTurn_nat (f : Nat → Nat) {n : Nat} (h : n < 1024) (a : Nat) : canTurn f (n : Int) a = (f n == a) := by
  unfold canTurn
  rw [decide_eq_true (by omega)]; simp

theorem cannot_turn (f : Nat → Nat) {i : Int} (h : i < 0 ∨ 1024 ≤ i) (a : Nat) : canTurn f i a = false := by
  unfold canTurn
  rw [decide_eq_false (by omega)]; simp

set_option maxHeartbeats 1000000 in
theorem turn_any (B : Nat) (f : Nat → Nat) (i za zb : Int) (a b : Nat) (ha : za = a) (hb : zb = b) (w : World) (hm : MapAt w B f) (hi : I64 i) :
    Calls Try.prog 27 #[.pointer (some ⟨B, 0, none⟩), .int .i64 i, .int .u8 za, .int .u8 zb] w fun e w' =>
      e = .returned (.int .i64 (turnE f i a)) ∧ MapAt w' B (turnF f i a b) ∧ Kept (· = B) w w' := by
  have hBw := hm.lt
  unfold I64 at hi
  have hm := Lib.hid hm
  by_cases h0 : 0 ≤ i
  · by_cases h1 : i < 1024
    · obtain ⟨n, rfl⟩ : ∃ n : Nat, i = n := ⟨i.toNat, by omega⟩
      have hn : n < 1024 := by omega
      have c1 := hm.out.cell hn
      have c2 := hm.out.frozen n
      have hc := Lib.hid (canTurn_nat f hn a)
      by_cases hf : f n = a
      · have he : Hid (canTurn f (n : Int) a = true) := Lib.hid (by rw [hc.out]; simp [hf])
        rw [hf, ← ha] at c1
        have Hf := Lib.hid hf
        have Ha := Lib.hid ha
        have Hb := Lib.hid hb
        clear hf ha hb
        go_enter Try.func27, Try.ntmps27
        go_wp2
        go_ret
        refine ⟨ret_int (by unfold turnE; rw [he.out]; rfl), ?_, Kept.cellAt w B n _⟩
        unfold turnF
        rw [he.out, Hb.out]
        exact hm.out.set n b
      · have he : Hid (canTurn f (n : Int) a = false) := Lib.hid (by rw [hc.out]; simp [hf])
        have hne : ((f n : Int) != za) = true := by rw [ha]; simp; omega
        have Ha := Lib.hid ha
        have Hb := Lib.hid hb
        clear hf ha hb
        go_enter Try.func27, Try.ntmps27
        go_wp2
        go_ret
        refine ⟨ret_int (by unfold turnE; rw [he.out]; rfl), ?_, Kept.refl _ _⟩
        unfold turnF
        rw [he.out]
        exact hm.out
    · have he := Lib.hid (cannot_turn f (i := i) (by omega) a)
      clear ha hb
      go_enter Try.func27, Try.ntmps27
      go_wp2
      go_ret
      refine ⟨ret_int (by unfold turnE; rw [he.out]; rfl), ?_, Kept.refl _ _⟩
      unfold turnF
      rw [he.out]
      exact hm.out
  · have he := Lib.hid (cannot_turn f (i := i) (by omega) a)
    clear ha hb
    go_enter Try.func27, Try.ntmps27
    go_wp2
    go_ret
    refine ⟨ret_int (by unfold turnE; rw [he.out]; rfl), ?_, Kept.refl _ _⟩
    unfold turnF
    rw [he.out]
    exact hm.out

theorem Take_any (B : Nat) (f : Nat → Nat) (i : Int) (w : World) (hm : MapAt w B f) (hi : I64 i) : Calls Try.prog 20 #[.pointer (some ⟨B, 0, none⟩), .int .i64 i] w fun e w' =>
      e = .returned (.int .i64 (turnE f i 1)) ∧ MapAt w' B (turnF f i 1 2) ∧ Kept (· = B) w w' := by
  have hm := Lib.hid hm
  have hi := Lib.hid hi
  go_enter Try.func20, Try.ntmps20
  go_wp2_with fail
  refine (turn_any B f i 1 2 1 2 rfl rfl w hm.out hi.out).mono ?_
  rintro e w1 ⟨rfl, hm1, hk⟩
  have hm1 := Lib.hid hm1
  have hk := Lib.hid hk
  go_wp2
  go_ret
  exact ⟨rfl, hm1.out, hk.out⟩
theorem Free_any (B : Nat) (f : Nat → Nat) (i : Int) (w : World) (hm : MapAt w B f) (hi : I64 i) : Calls Try.prog 13 #[.pointer (some ⟨B, 0, none⟩), .int .i64 i] w fun e w' =>
      e = .returned (.int .i64 (turnE f i 2)) ∧ MapAt w' B (turnF f i 2 1) ∧ Kept (· = B) w w' := by
  have hm := Lib.hid hm
  have hi := Lib.hid hi
  go_enter Try.func13, Try.ntmps13
  go_wp2_with fail
  refine (turn_any B f i 2 1 2 1 rfl rfl w hm.out hi.out).mono ?_
  rintro e w1 ⟨rfl, hm1, hk⟩
  have hm1 := Lib.hid hm1
  have hk := Lib.hid hk
  go_wp2
  go_ret
  exact ⟨rfl, hm1.out, hk.out⟩
theorem Later_any (B : Nat) (f : Nat → Nat) (i : Int) (w : World) (hm : MapAt w B f) (hi : I64 i) : Calls Try.prog 14 #[.pointer (some ⟨B, 0, none⟩), .int .i64 i] w fun e w' =>
      e = .returned (.int .i64 (turnE f i 2)) ∧ MapAt w' B (turnF f i 2 3) ∧ Kept (· = B) w w' := by
  have hm := Lib.hid hm
  have hi := Lib.hid hi
  go_enter Try.func14, Try.ntmps14
  go_wp2_with fail
  refine (turn_any B f i 2 3 2 3 rfl rfl w hm.out hi.out).mono ?_
  rintro e w1 ⟨rfl, hm1, hk⟩
  have hm1 := Lib.hid hm1
  have hk := Lib.hid hk
  go_wp2
  go_ret
  exact ⟨rfl, hm1.out, hk.out⟩

end Go.Proofs.Ythnncohkdgaipaa
