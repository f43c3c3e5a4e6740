/- How a device lies in memory; the calls that only read it. -/
import Derived.Test.YtfpacnokecfhmaaVdevM
import Derived.Test.YtfpacnokecfhmaaChecked
namespace Go.Proofs.Ytfpacnokecfhmaa
open Go.ChangeShapes Go.WideShapes Go.ChangeAt Go.RowKit
set_option linter.unusedVariables false

/-- where a device lies -/
structure DevL where
  d : Nat
  sb : Nat
  nb : Nat
  pv : Value

/-- a pending write's cells -/
def wrL (p : Nat × Sec) : List Value := .int .i64 (p.1 : Int) :: secL p.2
theorem wrL_length (p : Nat × Sec) : (wrL p).length = 129 := by simp [wrL, secL_length]
theorem wrL_one (p : Nat × Sec) : ∀ v ∈ wrL p, v.oneCell' = true := by
  intro v hv
  simp only [wrL, List.mem_cons] at hv
  rcases hv with rfl | hv
  · rfl
  · exact secL_one _ v hv

/-- a device lies there -/
structure DevAt (w : World) (L : DevL) (m : DevM) : Prop where
  base : Blk w L.d 58 [.slice (some ⟨L.sb, 0, none⟩) m.stable.length m.stable.length, .slice (some ⟨L.nb, 0, none⟩) m.stable.length m.stable.length, L.pv, .int .i64 (m.ops : Int), .int .i64 m.left, .bool m.dead]
  st : Blk w L.sb 33 (rowsL secL m.stable)
  nw : Blk w L.nb 33 (rowsL secL m.now)
  pe : w.ownsRow 0 62 129 L.pv m.pending.length (rowsL wrL m.pending)
  ne : L.sb ≠ L.nb
  fits : m.Fits

def DevL.foot (L : DevL) (k : Nat) : Prop := k = L.d ∨ k = L.sb ∨ k = L.nb ∨ L.pv.ownBlock = some k

theorem owns_kept {F : Nat → Prop} {w w' : World} {base e size n : Nat} {v : Value} {xs : List Value} (h : w.ownsRow base e size v n xs) (k : Kept F w w') (hn : ∀ g, v.ownBlock = some g → ¬ F g) : w'.ownsRow base e size v n xs := by
  obtain ⟨hl, h | h⟩ := h
  · exact ⟨hl, .inl h⟩
  · obtain ⟨g, cap, cur, rfl, h1, h2, h3⟩ := h
    refine ⟨hl, .inr ⟨g, cap, cur, rfl, h1, ?_, h3⟩⟩
    have : g < w.heap.size := by
      by_cases hb : g < w.heap.size
      · exact hb
      · rw [Array.getElem?_eq_none (by omega)] at h2; simp at h2
    rw [k.block g this (hn g rfl), h2]

theorem owns_form {w : World} {base e size n : Nat} {v : Value} {xs : List Value} (h : w.ownsRow base e size v n xs) : ∃ ao cap, v = .slice ao n cap ∧ (n ≠ 0 → ∃ g, ao = some ⟨g, 0, none⟩ ∧ v.ownBlock = some g ∧ g < w.heap.size) := by
  have hlt := World.ownsRow.lt h
  obtain ⟨hl, ⟨rfl, hn⟩ | ⟨g, cap, cur, rfl, h1, h2, h3⟩⟩ := h
  · subst hn; exact ⟨none, 0, rfl, fun h => absurd rfl h⟩
  · exact ⟨_, cap, rfl, fun _ => ⟨g, rfl, rfl, (hlt g rfl).2⟩⟩

section
variable {w w' : World} {L : DevL} {m : DevM} {F : Nat → Prop}
theorem DevAt.ds (h : DevAt w L m) : L.d ≠ L.sb := h.base.ne h.st (by decide)
theorem DevAt.dn (h : DevAt w L m) : L.d ≠ L.nb := h.base.ne h.nw (by decide)
theorem DevAt.dp (h : DevAt w L m) : L.pv.ownBlock ≠ some L.d := Own.ne_blk h.pe h.base (by decide)
theorem DevAt.sp (h : DevAt w L m) : L.pv.ownBlock ≠ some L.sb := Own.ne_blk h.pe h.st (by decide)
theorem DevAt.np (h : DevAt w L m) : L.pv.ownBlock ≠ some L.nb := Own.ne_blk h.pe h.nw (by decide)
theorem DevAt.lt (h : DevAt w L m) : ∀ k, L.foot k → k < w.heap.size := by
  rintro k (rfl | rfl | rfl | e)
  · exact h.base.lt
  · exact h.st.lt
  · exact h.nw.lt
  · exact (World.ownsRow.lt h.pe k e).2
theorem DevAt.kept (h : DevAt w L m) (k : Kept F w w') (hn : ∀ i, L.foot i → ¬ F i) : DevAt w' L m :=
  ⟨h.base.kept k (hn _ (.inl rfl)), h.st.kept k (hn _ (.inr (.inl rfl))), h.nw.kept k (hn _ (.inr (.inr (.inl rfl)))), owns_kept h.pe k fun g hg => hn g (.inr (.inr (.inr hg))), h.ne, h.fits⟩
theorem DevAt.below (h : DevAt w L m) (hb : Below w.heap.size w w') : DevAt w' L m := h.kept (F := fun _ => False) (Kept.of_below hb _) fun _ _ => id
theorem DevAt.alloc (h : DevAt w L m) (o : Obj) : DevAt (w.alloc o) L m := h.kept (F := fun _ => False) (Kept.of_alloc _ _ _) fun _ _ => id
theorem DevAt.drewN (h : DevAt w L m) (n : Nat) : DevAt (w.drewN n) L m := ⟨h.base, h.st, h.nw, owns_kept (F := fun _ => False) h.pe ((Kept.refl _ w).drewN n) fun _ _ => id, h.ne, h.fits⟩
theorem DevAt.drew (h : DevAt w L m) : DevAt w.drew L m := ⟨h.base, h.st, h.nw, owns_kept (F := fun _ => False) h.pe ((Kept.refl _ w).drew) fun _ _ => id, h.ne, h.fits⟩
/-- the six cells -/
theorem DevAt.c0 (h : DevAt w L m) : w.cell? ⟨L.d, 0, none⟩ = some (.slice (some ⟨L.sb, 0, none⟩) m.stable.length m.stable.length) := by rw [h.base.cell]; rfl
theorem DevAt.c1 (h : DevAt w L m) : w.cell? ⟨L.d, 1, none⟩ = some (.slice (some ⟨L.nb, 0, none⟩) m.stable.length m.stable.length) := by rw [h.base.cell]; rfl
theorem DevAt.c2 (h : DevAt w L m) : w.cell? ⟨L.d, 2, none⟩ = some L.pv := by rw [h.base.cell]; rfl
theorem DevAt.c3 (h : DevAt w L m) : w.cell? ⟨L.d, 3, none⟩ = some (.int .i64 (m.ops : Int)) := by rw [h.base.cell]; rfl
theorem DevAt.c4 (h : DevAt w L m) : w.cell? ⟨L.d, 4, none⟩ = some (.int .i64 m.left) := by rw [h.base.cell]; rfl
theorem DevAt.c5 (h : DevAt w L m) : w.cell? ⟨L.d, 5, none⟩ = some (.bool m.dead) := by rw [h.base.cell]; rfl
theorem DevAt.fz (h : DevAt w L m) (i : Nat) : w.frozen? ⟨L.d, i, none⟩ = false := h.base.frozen i
theorem DevAt.stRange (h : DevAt w L m) {i : Nat} (hi : i < m.stable.length) : w.rangeAt L.sb (i * 128) (secL m.stable[i]) :=
  h.st.range fun j v hv => rowsL_at secL_length m.stable i hi j v hv
theorem DevAt.nwRange (h : DevAt w L m) {i : Nat} (hi : i < m.now.length) : w.rangeAt L.nb (i * 128) (secL m.now[i]) :=
  h.nw.range fun j v hv => rowsL_at secL_length m.now i hi j v hv
end

/-- a device at d, in the blocks that F names -/
def IsDev (w : World) (d : Nat) (F : Nat → Prop) (m : DevM) : Prop := ∃ L : DevL, L.d = d ∧ DevAt w L m ∧ (∀ k, L.foot k → F k) ∧ ∀ k, F k → k < w.heap.size
/-- F' names what F names, and new blocks -/
def Grows (n : Nat) (F F' : Nat → Prop) : Prop := ∀ k, F' k → F k ∨ n ≤ k

set_option maxHeartbeats 400000 in
theorem has_any (L : DevL) (m : DevM) (i : Int) (w : World) (h : DevAt w L m) (hi : I64 i) :
    Calls Try.prog 31 #[.pointer (some ⟨L.d, 0, none⟩), .int .i64 i] w fun e w' => e = .returned (.bool (m.has i)) ∧ w = w' := by
  have hc0 := h.c0
  have hl := h.fits.len
  have h := Lib.hid h
  unfold I64 at hi
  unfold DevM.has
  by_cases h0 : 0 ≤ i
  · have g0 : decide (0 ≤ i) = true := by simpa using h0
    go_enter Try.func31, Try.ntmps31
    go_wp2
    go_ret
    exact ⟨by simp [g0], rfl⟩
  · have g0 : decide (0 ≤ i) = false := by simpa using h0
    go_enter Try.func31, Try.ntmps31
    go_wp2
    go_ret
    exact ⟨by simp, rfl⟩
end Go.Proofs.Ytfpacnokecfhmaa
