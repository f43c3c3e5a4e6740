/- A map's Count, roomiest, slices.Index of states, turn and its three callers, Copy, New. -/
import Derived.Test.YthnncohkdgaipaaSlabA
namespace Go.Proofs.Ythnncohkdgaipaa
open Go.ChangeShapes Go.WideShapes Go.ChangeAt Go.RowKit
set_option linter.unusedVariables false
set_option maxRecDepth 20000

set_option maxHeartbeats 1000000 in
theorem Count_map (B : Nat) (f : Nat → Nat) (w : World) (hm : MapAt w B f) :
    Calls Try.prog 10 #[.pointer (some ⟨B, 0, none⟩)] w fun e w' => e = .returned (.int .i64 (countN f : Nat)) ∧ w' = w := by
  have hBw := hm.lt
  have hm := Lib.hid hm
  have hr : countN f = sumF (roomN f) 16 := rfl
  rw [hr]
  clear hr
  go_enter Try.func10, Try.ntmps10
  go_wp2
  go_loopw [3, 5] (fun c i wr => ∃ k : Nat, k ≤ 16 ∧ i = .int .i64 k ∧ c = .int .i64 (sumF (roomN f) k : Nat) ∧ wr = w)
    (fun _ i _ => 16 - (intOf i).toNat)
  case atStart => exact ⟨0, by omega, rfl, rfl, rfl⟩
  case round =>
    obtain ⟨k, hk, rfl, rfl, rfl⟩ := hrel
    have hcl := sumF_room_le f k hk
    by_cases hlt : k < 16
    · have hs1 : sumF (roomN f) (k + 1) = sumF (roomN f) k + roomN f k := rfl
      have hrl := roomN_le f k
      have hi := roomI_nat f hlt
      generalize sumF (roomN f) k = c at *
      generalize roomN f k = r at *
      have hs1 := Lib.hid hs1
      have hi := Lib.hid hi
      go_wp2_with fail
      refine (Room_any B f _ _ hm.out (by unfold I64; omega)).mono ?_
      rintro e w1 ⟨rfl, rfl⟩
      rw [hi.out]
      go_wp2
      go_roundw
      case rel => exact ⟨k + 1, by omega, by go_num, by rw [hs1.out]; simp, trivial⟩
      case measure => simp [intOf] <;> omega
    · obtain rfl : k = 16 := by omega
      go_wp2
      go_ret
      exact ⟨rfl, rfl⟩

theorem bestF_small (f : Nat → Nat) (k : Nat) (hk : k ≤ 16) : (bestF (roomN f) k).1 ≤ 16 ∧ (bestF (roomN f) k).2 ≤ 64 := by
  obtain ⟨h1, _, h3, _⟩ := bestF_spec (roomN f) k
  refine ⟨by omega, ?_⟩
  by_cases h : 0 < (bestF (roomN f) k).2
  · rw [← (h3 h).2]; exact roomN_le _ _
  · omega

set_option maxHeartbeats 1000000 in
theorem roomiest_any (B : Nat) (f : Nat → Nat) (w : World) (hm : MapAt w B f) :
    Calls Try.prog 29 #[.pointer (some ⟨B, 0, none⟩)] w fun e w' => e = .returned (.int .i64 (bestS f : Nat)) ∧ w' = w := by
  have hBw := hm.lt
  have hm := Lib.hid hm
  have hr : bestS f = (bestF (roomN f) 16).1 := rfl
  rw [hr]
  clear hr
  go_enter Try.func29, Try.ntmps29
  go_wp2
  go_loopw [3, 4, 5, 6, 7] (fun b m u v i wr => ∃ k : Nat, k ≤ 16 ∧ i = .int .i64 k ∧ b = .int .i64 ((bestF (roomN f) k).1 : Nat) ∧ m = .int .i64 ((bestF (roomN f) k).2 : Nat) ∧ wr = w)
    (fun _ _ _ _ i _ => 16 - (intOf i).toNat)
  case atStart => exact ⟨0, by omega, rfl, rfl, rfl, rfl⟩
  case round =>
    obtain ⟨k, hk, rfl, rfl, rfl, rfl⟩ := hrel
    obtain ⟨hb1, hb2⟩ := bestF_small f k hk
    by_cases hlt : k < 16
    · have hs1 : bestF (roomN f) (k + 1) = if (bestF (roomN f) k).2 < roomN f k then (k, roomN f k) else bestF (roomN f) k := rfl
      have hrl := roomN_le f k
      have hi := roomI_nat f hlt
      generalize bestF (roomN f) k = c at *
      obtain ⟨cb, cm⟩ := c
      simp only at hb1 hb2 hs1
      generalize roomN f k = r at *
      have hi := Lib.hid hi
      by_cases hg : cm < r
      · rw [if_pos hg] at hs1
        have hs1 := Lib.hid hs1
        go_wp2_with fail
        refine (Room_any B f _ _ hm.out (by unfold I64; omega)).mono ?_
        rintro e w1 ⟨rfl, rfl⟩
        rw [hi.out]
        go_wp2
        go_roundw
        case rel => exact ⟨k + 1, by omega, by go_num, by rw [hs1.out], by rw [hs1.out], trivial⟩
        case measure => simp [intOf] <;> omega
      · rw [if_neg hg] at hs1
        have hs1 := Lib.hid hs1
        go_wp2_with fail
        refine (Room_any B f _ _ hm.out (by unfold I64; omega)).mono ?_
        rintro e w1 ⟨rfl, rfl⟩
        rw [hi.out]
        go_wp2
        go_roundw
        case rel => exact ⟨k + 1, by omega, by go_num, by rw [hs1.out], by rw [hs1.out], trivial⟩
        case measure => simp [intOf] <;> omega
    · obtain rfl : k = 16 := by omega
      go_wp2
      go_ret
      exact ⟨rfl, rfl⟩

/-- a part of a row of states, and whether each is free -/
theorem idxF_skip {p : Nat → Bool} {n : Nat} (h : ∀ j, j < n → p j = false) : idxF p n = none := idxF_none.2 h

def idxI (p : Nat → Bool) (n : Nat) : Int := match idxF p n with
  | some i => (i : Int)
  | none => -1

set_option maxHeartbeats 1000000 in
theorem Index_any (B off n cap : Nat) (f : Nat → Nat) (w : World) (hm : MapAt w B f) (hn : off + n ≤ 1024) :
    Calls Try.prog 30 #[.slice (some ⟨B, off, none⟩) n cap, .int .u8 1] w fun e w' => e = .returned (.int .i64 (idxI (fun j => f (off + j) == 1) n)) ∧ w' = w := by
  have hBw := hm.lt
  have hm := Lib.hid hm
  go_enter Try.func30, Try.ntmps30
  go_wp2
  go_loopw [5, 8] (fun u i wr => ∃ k : Nat, k ≤ n ∧ i = .int .i64 k ∧ Hid (∀ j, j < k → f (off + j) ≠ 1) ∧ wr = w)
    (fun _ i _ => n - (intOf i).toNat)
  case atStart => exact ⟨0, by omega, rfl, Lib.hid (fun j hj => absurd hj (by omega)), rfl⟩
  case round =>
    obtain ⟨k, hk, rfl, hno, rfl⟩ := hrel
    by_cases hlt : k < n
    · have c1 := hm.out.cell (i := off + k) (by omega)
      by_cases hf : f (off + k) = 1
      · rw [hf] at c1
        have hi : idxF (fun j => f (off + j) == 1) n = some k := idxF_eq hlt (by simp [hf]) (fun j hj => by simp [hno.out j hj])
        have hI : idxI (fun j => f (off + j) == 1) n = (k : Int) := by unfold idxI; rw [hi]
        have hI := Lib.hid hI
        clear hi
        go_wp2
        go_ret
        exact ⟨ret_int hI.out.symm, rfl⟩
      · have hne : ((1 : Int) == (f (off + k) : Int)) = false := by simp; omega
        have hno' : Hid (∀ j, j < k + 1 → f (off + j) ≠ 1) := Lib.hid fun j hj => by
          by_cases e : j = k
          · subst e; exact hf
          · exact hno.out j (by omega)
        have hf := Lib.hid hf
        go_wp2
        go_roundw
        case rel => exact ⟨k + 1, by omega, by go_num, hno', trivial⟩
        case measure => simp [intOf] <;> omega
    · obtain rfl : k = n := by omega
      have hi : idxF (fun j => f (off + j) == 1) k = none := idxF_none.2 fun j hj => by simp [hno.out j hj]
      have hI : idxI (fun j => f (off + j) == 1) k = -1 := by unfold idxI; rw [hi]
      have hI := Lib.hid hI
      clear hi
      go_wp2
      go_ret
      exact ⟨ret_int hI.out.symm, rfl⟩

end Go.Proofs.Ythnncohkdgaipaa
