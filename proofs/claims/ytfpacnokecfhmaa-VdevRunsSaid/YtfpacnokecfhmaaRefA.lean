/- The document's own device: New, There, At, power, Break. -/
import Derived.Test.YtfpacnokecfhmaaFlush
namespace Go.Proofs.Ytfpacnokecfhmaa
open Go.ChangeShapes Go.WideShapes Go.ChangeAt Go.RowKit
set_option linter.unusedVariables false

/-- one element of a slice that reads as rows -/
theorem Reads.rangeRow {α : Type} {f : α → List Value} {n : Nat} (hf : ∀ x, (f x).length = n) (hn : 0 < n) {w : World} {ao : Option Addr} {xs : List α} (h : Reads w ao (rowsL f xs)) {k : Nat} (hk : k < xs.length) :
    ∃ b off, ao = some ⟨b, off, none⟩ ∧ b < w.heap.size ∧ w.rangeAt b (off + k * n) (f xs[k]) := by
  have hl : (rowsL f xs).length = xs.length * n := rowsL_length hf _
  have hle : (k + 1) * n ≤ xs.length * n := Nat.mul_le_mul_right _ hk
  have hs : (k + 1) * n = k * n + n := by rw [Nat.add_mul]; omega
  obtain ⟨b, off, e, _, hb⟩ := h.at (k := k * n) (by omega)
  refine ⟨b, off, e, hb, fun j v hv => ?_⟩
  have hj : j < n := by rw [← hf xs[k]]; exact (List.getElem?_eq_some_iff.1 hv).1
  have h1 := rowsL_at hf xs k hk j v hv
  obtain ⟨b', off', e', c', _⟩ := h.at (k := k * n + j) (by omega)
  rw [e] at e'
  cases e'
  rw [Nat.add_assoc, c']
  obtain ⟨hlt, e2⟩ := List.getElem?_eq_some_iff.1 h1
  rw [← e2]

/-- a device of the document's as a value: its five cells -/
structure RefAt (w : World) (m : DevM) (so : Option Addr) (sc : Nat) (po : Option Addr) (pc : Nat) : Prop where
  st : Reads w so (rowsL secL m.stable)
  pe : Reads w po (rowsL wrL m.pending)
  sc : m.stable.length ≤ sc ∧ (so = none → sc = 0)
  pc : m.pending.length ≤ pc ∧ (po = none → pc = 0)
def refL (m : DevM) (so : Option Addr) (sc : Nat) (po : Option Addr) (pc : Nat) : List Value :=
  [.slice so m.stable.length sc, .slice po m.pending.length pc, .int .i64 (m.ops : Int), .int .i64 (max m.left (-1)), .bool m.dead]
theorem RefAt.below {w w' : World} {m : DevM} {so : Option Addr} {sc : Nat} {po : Option Addr} {pc : Nat} (h : RefAt w m so sc po pc) (hb : Below w.heap.size w w') : RefAt w' m so sc po pc := ⟨h.st.below hb, h.pe.below hb, h.sc, h.pc⟩

theorem There_any (so : Option Addr) (n sc : Nat) (x1 x2 x3 x4 : Value) (i : Int) (hi : I64 i) (hn : n ≤ 1024) (w : World) :
    Calls Try.prog 32 #[.agg #[.slice so n sc, x1, x2, x3, x4], .int .i64 i] w fun e w' => e = .returned (.bool (decide (0 ≤ i) && decide (i < (n : Int)))) ∧ Below w.heap.size w w' := by
  unfold I64 at hi
  by_cases h0 : 0 ≤ i
  · have g0 : decide (0 ≤ i) = true := by simpa using h0
    go_enter Try.func32, Try.ntmps32
    go_wp2
    go_ret
    exact ⟨by simp [g0], (Below.refl _ _).alloc (Nat.le_refl _) _⟩
  · have g0 : decide (0 ≤ i) = false := by simpa using h0
    go_enter Try.func32, Try.ntmps32
    go_wp2
    go_ret
    exact ⟨by simp, (Below.refl _ _).alloc (Nat.le_refl _) _⟩

theorem At_in (so : Option Addr) (st : List Sec) (n sc : Nat) (hn : Hid (st.length = n)) (x1 x2 x3 x4 : Value) (i : Nat) (hi : i < n) (hle : n ≤ 1024) (w : World) (hr : Reads w so (rowsL secL st)) :
    Calls Try.prog 29 #[.agg #[.slice so n sc, x1, x2, x3, x4], .int .i64 (i : Int)] w fun e w' => e = .returned (.agg (secL (st.getD i sec0)).toArray) ∧ Below w.heap.size w w' := by
  have hz := zeroSec
  obtain ⟨b, off, rfl, hbb, hrow⟩ := hr.rangeRow secL_length (by omega) (k := i) (by rw [hn.out]; exact hi)
  obtain ⟨s, hs⟩ : ∃ s, Hid (s = st[i]'(by rw [hn.out]; exact hi)) := ⟨_, Lib.hid rfl⟩
  rw [← hs.out] at hrow
  have hg : Hid (st.getD i sec0 = s) := Lib.hid (by rw [hs.out]; simp [hn.out, hi])
  have hrow := Lib.hid hrow
  have hr := Lib.hid hr
  have ht := There_any (some ⟨b, off, none⟩) n sc x1 x2 x3 x4 i (by unfold I64; omega) hle
  have ht := Lib.hid ht
  have i1 : (i : Int) < (n : Int) := by omega
  have i0 : (0 : Int) ≤ (i : Int) := by omega
  go_enter Try.func29, Try.ntmps29
  go_wp2_with fail
  refine (ht.out _).mono ?_
  rintro e w1 ⟨rfl, b1⟩
  have hz1 : w.heap.size + 1 + 1 ≤ w1.heap.size := by simpa using b1.size
  have c0 : w1.cell? ⟨w.heap.size, 0, none⟩ = some (.slice (some ⟨b, off, none⟩) n sc) := (b1.cell (p := ⟨w.heap.size, 0, none⟩) (by simp; omega)).trans ((((Blk.newA w 30 #[.slice (some ⟨b, off, none⟩) n sc, x1, x2, x3, x4]).alloc _).cell 0).trans rfl)
  have hb1 := Lib.hid (((Blk.new (w.alloc (.cells #[.slice (some ⟨b, off, none⟩) n sc, x1, x2, x3, x4] 30)) 33 (secL sec0))).below b1 (by simp))
  have hr1 := Lib.hid (range_below hrow.out ((((Below.refl _ _).alloc (Nat.le_refl _) _).alloc (by simp) _).trans (b1.mono (by simp; omega))))
  have q1 := Lib.hid ((((Below.refl w.heap.size w).alloc (Nat.le_refl _) (.cells #[.slice (some ⟨b, off, none⟩) n sc, x1, x2, x3, x4] 30)).alloc (by simp) (.cells (secL sec0).toArray 33)).trans (b1.mono (by simp; omega)))
  have b1 := Lib.hid b1
  go_wp2_with (first
    | ((with_reducible refine guardList ?_); refine wantList_load (by rfl) 33 _ rfl b (off + i * 128) (by rfl) (secL s) _ hr1.out Try.underlying33 rfl (infoSecL _) ?_)
    | ((with_reducible refine guardList ?_); refine wantList_store (by rfl) 33 _ _ rfl (w.heap.size + 1) 0 (by rfl) (secL s) (by rfl) _ (secL sec0) (secL s) (by simpa using hb1.out) (by simp [secL_length]) (secL_one _) (infoSecL _) (whole_new (by simp [secL_length])) ?_
       intro w2 hb2 k2 z2
       have hb2 := Lib.hid hb2
       have k2 := Lib.hid k2
       clear z2))
  refine bodyPost_ret (results_row rfl (rowSec hb2.out)) rfl ⟨by rw [hg.out], Kept.out q1.out k2.out (fun i _ e => by omega) (by omega)⟩
end Go.Proofs.Ytfpacnokecfhmaa
