/- Vdev: the texts VdevM, VdevA, VdevB, VdevC, VdevD, VdevE, VdevE2, VdevF, VdevG, one behind the other. -/
import Derived.Test.YtgdefibkemkejaaGBase
import Derived.Test.YtgdefibkemkejaaChecked
/- A device as plain data: what each call does to it. -/
namespace Go.Proofs.Ytgdefibkemkejaa
open Go.RowKit
set_option linter.unusedVariables false
set_option maxRecDepth 20000

/-- a device: what is stable, what is pending, how many calls, how many more are done, is the power gone -/
structure DevM where
  stable : List Sec
  pending : List (Nat × Sec)
  ops : Nat
  left : Int
  dead : Bool

/-- the sectors behind some writes -/
def putAll (l : List Sec) (p : List (Nat × Sec)) : List Sec := p.foldl (fun l x => l.set x.1 x.2) l
theorem putAll_nil (l : List Sec) : putAll l [] = l := rfl
theorem putAll_snoc (l : List Sec) (p : List (Nat × Sec)) (x : Nat × Sec) : putAll l (p ++ [x]) = (putAll l p).set x.1 x.2 := by simp [putAll]
theorem putAll_cons (l : List Sec) (p : List (Nat × Sec)) (x : Nat × Sec) : putAll l (x :: p) = putAll (l.set x.1 x.2) p := rfl
theorem putAll_length (l : List Sec) (p : List (Nat × Sec)) : (putAll l p).length = l.length := by
  induction p generalizing l with
  | nil => rfl
  | cons x r ih => rw [putAll_cons, ih, List.length_set]

namespace DevM
/-- the sectors as they would be read -/
def now (m : DevM) : List Sec := putAll m.stable m.pending
theorem now_length (m : DevM) : m.now.length = m.stable.length := putAll_length _ _
/-- one call more -/
def tick (m : DevM) : DevM := { m with ops := min (m.ops + 1) 4611686018427387903 }
def has (m : DevM) (i : Int) : Bool := decide (0 ≤ i) && decide (i < m.stable.length)
def fresh (n : Nat) : DevM := ⟨List.replicate n sec0, [], 0, -1, false⟩
def newLen (n : Int) : Nat := (min (max n 0) 1024).toNat
def read (m : DevM) (i : Int) : Sec × Int :=
  if m.has i then (if m.dead then (sec0, 42) else (m.now.getD i.toNat sec0, 0)) else (sec0, 41)
def stab (m : DevM) (i : Int) : Sec := if m.has i then m.stable.getD i.toNat sec0 else sec0
/-- does the power last for one call more, and what is left -/
def lasts (m : DevM) : Bool := !(m.dead || m.left == 0)
def spend (m : DevM) : DevM := if m.lasts then { m with left := if 0 < m.left then m.left - 1 else m.left } else { m with dead := true }
def write (m : DevM) (i : Int) (s : Sec) : DevM × Int :=
  if m.has i then (if m.lasts then ({ m.tick.spend with pending := m.pending ++ [(i.toNat, s)] }, 0) else (m.tick.spend, 42)) else (m.tick, 41)
theorem spend_pending (m : DevM) : m.spend.pending = m.pending := by unfold spend; split <;> rfl
theorem spend_stable (m : DevM) : m.spend.stable = m.stable := by unfold spend; split <;> rfl
theorem spend_now (m : DevM) : m.spend.now = m.now := by unfold now; rw [spend_pending, spend_stable]
/-- those of the pending writes that are kept -/
def kept (k : Nat → Bool) (p : List (Nat × Sec)) : List (Nat × Sec) := ((p.zipIdx).filter fun x => k x.2).map (·.1)
def settle (m : DevM) (k : Nat → Bool) : DevM := { m with stable := putAll m.stable (kept k m.pending), pending := [] }
def flush (m : DevM) : DevM × Int := if m.lasts then ((m.tick.spend).settle (fun _ => true), 0) else (m.tick.spend, 42)
def brk (m : DevM) (n : Int) : DevM := { m with left := n }
def crash (m : DevM) (keep : List Bool) : DevM := { m.settle (fun k => keep.getD k false) with left := -1, dead := false }
def rot (m : DevM) (i : Int) (s : Sec) : DevM × Int :=
  if m.has i then ({ m with stable := m.stable.set i.toNat s, pending := m.pending.map fun p => (p.1, if p.1 = i.toNat then s else p.2) }, 0) else (m, 41)
/-- what always holds -/
structure Fits (m : DevM) : Prop where
  ops : m.ops ≤ 4611686018427387903
  left : -9223372036854775808 ≤ m.left ∧ m.left ≤ 9223372036854775807
  len : m.stable.length ≤ 1024
  at_ : ∀ p ∈ m.pending, p.1 < m.stable.length
end DevM
end Go.Proofs.Ytgdefibkemkejaa

/- How a device lies in memory; the calls that only read it. -/
namespace Go.Proofs.Ytgdefibkemkejaa
open Go.ChangeShapes Go.WideShapes Go.ChangeAt Go.RowKit
set_option linter.unusedVariables false
set_option maxRecDepth 20000

/-- where a device lies -/
structure DevL where
  d : Nat
  sb : Nat
  nb : Nat
  pv : Value

/-- a pending write's cells -/
def wrL (p : Nat × Sec) : List Value := .int .i64 (p.1 : Int) :: secL p.2
theorem wrL_length (p : Nat × Sec) : (wrL p).length = 129 := by simp [wrL, secL_length]
theorem wrL_one (p : Nat × Sec) : ∀ v ∈ wrL p, v.oneCell' = true := by
  intro v hv
  simp only [wrL, List.mem_cons] at hv
  rcases hv with rfl | hv
  · rfl
  · exact secL_one _ v hv

/-- a device lies there -/
structure DevAt (w : World) (L : DevL) (m : DevM) : Prop where
  base : Blk w L.d 98 [.slice (some ⟨L.sb, 0, none⟩) m.stable.length m.stable.length, .slice (some ⟨L.nb, 0, none⟩) m.stable.length m.stable.length, L.pv, .int .i64 (m.ops : Int), .int .i64 m.left, .bool m.dead]
  st : Blk w L.sb 23 (rowsL secL m.stable)
  nw : Blk w L.nb 23 (rowsL secL m.now)
  pe : w.ownsRow 0 130 129 L.pv m.pending.length (rowsL wrL m.pending)
  ne : L.sb ≠ L.nb
  fits : m.Fits

def DevL.foot (L : DevL) (k : Nat) : Prop := k = L.d ∨ k = L.sb ∨ k = L.nb ∨ L.pv.ownBlock = some k

theorem owns_kept {F : Nat → Prop} {w w' : World} {base e size n : Nat} {v : Value} {xs : List Value} (h : w.ownsRow base e size v n xs) (k : Kept F w w') (hn : ∀ g, v.ownBlock = some g → ¬ F g) : w'.ownsRow base e size v n xs := by
  obtain ⟨hl, h | h⟩ := h
  · exact ⟨hl, .inl h⟩
  · obtain ⟨g, cap, cur, rfl, h1, h2, h3⟩ := h
    refine ⟨hl, .inr ⟨g, cap, cur, rfl, h1, ?_, h3⟩⟩
    have : g < w.heap.size := by
      by_cases hb : g < w.heap.size
      · exact hb
      · rw [Array.getElem?_eq_none (by omega)] at h2; simp at h2
    rw [k.block g this (hn g rfl), h2]

theorem owns_form {w : World} {base e size n : Nat} {v : Value} {xs : List Value} (h : w.ownsRow base e size v n xs) : ∃ ao cap, v = .slice ao n cap ∧ (n ≠ 0 → ∃ g, ao = some ⟨g, 0, none⟩ ∧ v.ownBlock = some g ∧ g < w.heap.size) := by
  have hlt := World.ownsRow.lt h
  obtain ⟨hl, ⟨rfl, hn⟩ | ⟨g, cap, cur, rfl, h1, h2, h3⟩⟩ := h
  · subst hn; exact ⟨none, 0, rfl, fun h => absurd rfl h⟩
  · exact ⟨_, cap, rfl, fun _ => ⟨g, rfl, rfl, (hlt g rfl).2⟩⟩

section
variable {w w' : World} {L : DevL} {m : DevM} {F : Nat → Prop}
theorem DevAt.ds (h : DevAt w L m) : L.d ≠ L.sb := h.base.ne h.st (by decide)
theorem DevAt.dn (h : DevAt w L m) : L.d ≠ L.nb := h.base.ne h.nw (by decide)
theorem DevAt.dp (h : DevAt w L m) : L.pv.ownBlock ≠ some L.d := Own.ne_blk h.pe h.base (by decide)
theorem DevAt.sp (h : DevAt w L m) : L.pv.ownBlock ≠ some L.sb := Own.ne_blk h.pe h.st (by decide)
theorem DevAt.np (h : DevAt w L m) : L.pv.ownBlock ≠ some L.nb := Own.ne_blk h.pe h.nw (by decide)
theorem DevAt.lt (h : DevAt w L m) : ∀ k, L.foot k → k < w.heap.size := by
  rintro k (rfl | rfl | rfl | e)
  · exact h.base.lt
  · exact h.st.lt
  · exact h.nw.lt
  · exact (World.ownsRow.lt h.pe k e).2
theorem DevAt.kept (h : DevAt w L m) (k : Kept F w w') (hn : ∀ i, L.foot i → ¬ F i) : DevAt w' L m :=
  ⟨h.base.kept k (hn _ (.inl rfl)), h.st.kept k (hn _ (.inr (.inl rfl))), h.nw.kept k (hn _ (.inr (.inr (.inl rfl)))), owns_kept h.pe k fun g hg => hn g (.inr (.inr (.inr hg))), h.ne, h.fits⟩
theorem DevAt.below (h : DevAt w L m) (hb : Below w.heap.size w w') : DevAt w' L m := h.kept (F := fun _ => False) (Kept.of_below hb _) fun _ _ => id
theorem DevAt.alloc (h : DevAt w L m) (o : Obj) : DevAt (w.alloc o) L m := h.kept (F := fun _ => False) (Kept.of_alloc _ _ _) fun _ _ => id
theorem DevAt.drewN (h : DevAt w L m) (n : Nat) : DevAt (w.drewN n) L m := ⟨h.base, h.st, h.nw, owns_kept (F := fun _ => False) h.pe ((Kept.refl _ w).drewN n) fun _ _ => id, h.ne, h.fits⟩
theorem DevAt.drew (h : DevAt w L m) : DevAt w.drew L m := ⟨h.base, h.st, h.nw, owns_kept (F := fun _ => False) h.pe ((Kept.refl _ w).drew) fun _ _ => id, h.ne, h.fits⟩
/-- the six cells -/
theorem DevAt.c0 (h : DevAt w L m) : w.cell? ⟨L.d, 0, none⟩ = some (.slice (some ⟨L.sb, 0, none⟩) m.stable.length m.stable.length) := by rw [h.base.cell]; rfl
theorem DevAt.c1 (h : DevAt w L m) : w.cell? ⟨L.d, 1, none⟩ = some (.slice (some ⟨L.nb, 0, none⟩) m.stable.length m.stable.length) := by rw [h.base.cell]; rfl
theorem DevAt.c2 (h : DevAt w L m) : w.cell? ⟨L.d, 2, none⟩ = some L.pv := by rw [h.base.cell]; rfl
theorem DevAt.c3 (h : DevAt w L m) : w.cell? ⟨L.d, 3, none⟩ = some (.int .i64 (m.ops : Int)) := by rw [h.base.cell]; rfl
theorem DevAt.c4 (h : DevAt w L m) : w.cell? ⟨L.d, 4, none⟩ = some (.int .i64 m.left) := by rw [h.base.cell]; rfl
theorem DevAt.c5 (h : DevAt w L m) : w.cell? ⟨L.d, 5, none⟩ = some (.bool m.dead) := by rw [h.base.cell]; rfl
theorem DevAt.fz (h : DevAt w L m) (i : Nat) : w.frozen? ⟨L.d, i, none⟩ = false := h.base.frozen i
theorem DevAt.stRange (h : DevAt w L m) {i : Nat} (hi : i < m.stable.length) : w.rangeAt L.sb (i * 128) (secL m.stable[i]) :=
  h.st.range fun j v hv => rowsL_at secL_length m.stable i hi j v hv
theorem DevAt.nwRange (h : DevAt w L m) {i : Nat} (hi : i < m.now.length) : w.rangeAt L.nb (i * 128) (secL m.now[i]) :=
  h.nw.range fun j v hv => rowsL_at secL_length m.now i hi j v hv
end

/-- a device at d, in the blocks that F names -/
def IsDev (w : World) (d : Nat) (F : Nat → Prop) (m : DevM) : Prop := ∃ L : DevL, L.d = d ∧ DevAt w L m ∧ (∀ k, L.foot k → F k) ∧ ∀ k, F k → k < w.heap.size
/-- F' names what F names, and new blocks -/
def Grows (n : Nat) (F F' : Nat → Prop) : Prop := ∀ k, F' k → F k ∨ n ≤ k

set_option maxHeartbeats 400000 in
theorem has_any (L : DevL) (m : DevM) (i : Int) (w : World) (h : DevAt w L m) (hi : I64 i) :
    Calls Try.prog 58 #[.pointer (some ⟨L.d, 0, none⟩), .int .i64 i] w fun e w' => e = .returned (.bool (m.has i)) ∧ w = w' := by
  have hc0 := h.c0
  have hl := h.fits.len
  have h := Lib.hid h
  unfold I64 at hi
  unfold DevM.has
  by_cases h0 : 0 ≤ i
  · have g0 : decide (0 ≤ i) = true := by simpa using h0
    go_enter Try.func58, Try.ntmps58
    go_wp2
    go_ret
    exact ⟨by simp [g0], rfl⟩
  · have g0 : decide (0 ≤ i) = false := by simpa using h0
    go_enter Try.func58, Try.ntmps58
    go_wp2
    go_ret
    exact ⟨by simp, rfl⟩
end Go.Proofs.Ytgdefibkemkejaa

/- A device: the calls that only read it, the count, the power. -/
namespace Go.Proofs.Ytgdefibkemkejaa
open Go.ChangeShapes Go.WideShapes Go.ChangeAt Go.RowKit
set_option linter.unusedVariables false
set_option maxRecDepth 20000

section
variable (L : DevL) (m : DevM) (w : World) (h : DevAt w L m)
/-- one field of the device's block is another one -/
theorem DevAt.setOps (h : DevAt w L m) (n : Nat) (hn : n ≤ 4611686018427387903) : DevAt (w.setCell ⟨L.d, 3, none⟩ (.int .i64 (n : Int))) L { m with ops := n } :=
  ⟨by have := h.base.set 3 (.int .i64 (n : Int)); simpa using this, h.st.far h.ds.symm _, h.nw.far h.dn.symm _, owns_kept h.pe (Kept.of_setCell (F := (· = L.d)) w (p := ⟨L.d, 3, none⟩) rfl _) (fun g hg e => h.dp (e ▸ hg)), h.ne, ⟨hn, h.fits.left, h.fits.len, h.fits.at_⟩⟩
theorem DevAt.setLeft (h : DevAt w L m) (n : Int) (hn : -9223372036854775808 ≤ n ∧ n ≤ 9223372036854775807) : DevAt (w.setCell ⟨L.d, 4, none⟩ (.int .i64 n)) L { m with left := n } :=
  ⟨by have := h.base.set 4 (.int .i64 n); simpa using this, h.st.far h.ds.symm _, h.nw.far h.dn.symm _, owns_kept h.pe (Kept.of_setCell (F := (· = L.d)) w (p := ⟨L.d, 4, none⟩) rfl _) (fun g hg e => h.dp (e ▸ hg)), h.ne, ⟨h.fits.ops, hn, h.fits.len, h.fits.at_⟩⟩
theorem DevAt.setDead (h : DevAt w L m) (b : Bool) : DevAt (w.setCell ⟨L.d, 5, none⟩ (.bool b)) L { m with dead := b } :=
  ⟨by have := h.base.set 5 (.bool b); simpa using this, h.st.far h.ds.symm _, h.nw.far h.dn.symm _, owns_kept h.pe (Kept.of_setCell (F := (· = L.d)) w (p := ⟨L.d, 5, none⟩) rfl _) (fun g hg e => h.dp (e ▸ hg)), h.ne, ⟨h.fits.ops, h.fits.left, h.fits.len, h.fits.at_⟩⟩

theorem count_any (h : DevAt w L m) : Calls Try.prog 57 #[.pointer (some ⟨L.d, 0, none⟩)] w fun e w' => e = .returned (.tuple #[]) ∧ DevAt w' L m.tick ∧ Kept (· = L.d) w w' ∧ w.heap.size = w'.heap.size := by
  have hc3 := h.c3
  have hz3 := h.fz 3
  have ho := h.fits.ops
  have k1 := h.setOps L m w (min (m.ops + 1) 4611686018427387903) (by omega)
  have k1 := Lib.hid k1
  have h := Lib.hid h
  by_cases hm : m.ops = 4611686018427387903
  · have e1 : min (m.ops + 1) 4611686018427387903 = 4611686018427387903 := by omega
    rw [e1] at k1
    rw [hm] at hc3
    have hm := Lib.hid hm
    have e1 := Lib.hid e1
    go_enter Try.func57, Try.ntmps57
    go_wp2
    go_end0
    refine ⟨rfl, ?_, Kept.cellAt w _ _ _, by simp⟩
    unfold DevM.tick
    rw [e1.out]
    exact k1.out
  · have e1 : min (m.ops + 1) 4611686018427387903 = m.ops + 1 := by omega
    have hlt : m.ops < 4611686018427387903 := by omega
    rw [e1] at k1
    have hm := Lib.hid hm
    have e1 := Lib.hid e1
    go_enter Try.func57, Try.ntmps57
    go_wp2
    go_end0
    refine ⟨rfl, ?_, Kept.cellAt w _ _ _, by simp⟩
    unfold DevM.tick
    rw [e1.out]
    exact k1.out

end
end Go.Proofs.Ytgdefibkemkejaa

/- A device: the power; a sector is read. -/
namespace Go.Proofs.Ytgdefibkemkejaa
open Go.ChangeShapes Go.WideShapes Go.ChangeAt Go.RowKit
set_option linter.unusedVariables false
set_option maxRecDepth 20000

theorem lasts_any (L : DevL) (m : DevM) (w : World) (h : DevAt w L m) : Calls Try.prog 70 #[.pointer (some ⟨L.d, 0, none⟩)] w fun e w' => e = .returned (.bool m.lasts) ∧ DevAt w' L m.spend ∧ Kept (· = L.d) w w' ∧ w.heap.size = w'.heap.size := by
  have hc4 := h.c4
  have hc5 := h.c5
  have hz4 := h.fz 4
  have hz5 := h.fz 5
  have hlt := h.base.lt
  have hl := h.fits.left
  by_cases h0 : m.left = 0
  · have k1 := Lib.hid (h.setDead L m w true)
    have e1 : Hid (m.lasts = false) := Lib.hid (by simp [DevM.lasts, h0])
    have e2 : Hid (m.spend = { m with dead := true }) := Lib.hid (by simp [DevM.spend, e1.out])
    rw [h0] at hc4
    have h := Lib.hid h
    have h0 := Lib.hid h0
    go_enter Try.func70, Try.ntmps70
    go_wp2
    go_ret
    exact ⟨(ret_bool e1.out).symm, by rw [e2.out]; exact k1.out, Kept.cellAt w _ _ _, by simp⟩
  · have g0 : (m.left == 0) = false := by simpa using h0
    cases hd : m.dead
    · rw [hd] at hc5
      have e1 : Hid (m.lasts = true) := Lib.hid (by simp [DevM.lasts, g0, hd])
      by_cases hp : 0 < m.left
      · have e2 : Hid (m.spend = { m with left := m.left - 1 }) := Lib.hid (by simp [DevM.spend, e1.out, hp])
        have k1 := Lib.hid (h.setLeft L m w (m.left - 1) (by omega))
        have h := Lib.hid h
        have hd := Lib.hid hd
        go_enter Try.func70, Try.ntmps70
        go_wp2
        go_ret
        exact ⟨(ret_bool e1.out).symm, by rw [e2.out]; exact k1.out, Kept.cellAt w _ _ _, by simp⟩
      · have e2 : Hid (m.spend = m) := Lib.hid (by simp [DevM.spend, e1.out, hp])
        have h := Lib.hid h
        have hd := Lib.hid hd
        go_enter Try.func70, Try.ntmps70
        go_wp2
        go_ret
        exact ⟨(ret_bool e1.out).symm, by rw [e2.out]; exact h.out, Kept.refl _ w, rfl⟩
    · rw [hd] at hc5
      have e1 : Hid (m.lasts = false) := Lib.hid (by simp [DevM.lasts, hd])
      have e2 : Hid (m.spend = m) := Lib.hid (by unfold DevM.spend; rw [e1.out]; cases m; simp at hd; subst hd; rfl)
      have h := Lib.hid h
      have hd := Lib.hid hd
      go_enter Try.func70, Try.ntmps70
      go_wp2
      go_ret
      exact ⟨(ret_bool e1.out).symm, by rw [e2.out]; exact h.out, Kept.refl _ w, rfl⟩

theorem rowSec {w : World} {g : Nat} {t : TypeId} {s : Sec} (h : Blk w g t (secL s)) : RowRes Try.prog w 23 (.pointer (some ⟨g, 0, none⟩)) (secL s) :=
  ⟨⟨g, t, rfl, h⟩, ⟨_, Try.underlying23, rfl⟩, infoSecL s⟩

theorem has_nat {m : DevM} {i : Int} (h : m.has i = true) : ∃ k : Nat, i = (k : Int) ∧ k < m.stable.length := by
  simp [DevM.has] at h
  exact ⟨i.toNat, by omega, by omega⟩

end Go.Proofs.Ytgdefibkemkejaa

/- A device: Read. -/
namespace Go.Proofs.Ytgdefibkemkejaa
open Go.ChangeShapes Go.WideShapes Go.ChangeAt Go.RowKit
set_option linter.unusedVariables false
set_option maxRecDepth 20000

theorem DevM.tick_has (m : DevM) (i : Int) : m.tick.has i = m.has i := rfl

set_option maxHeartbeats 800000 in
theorem Read_in (L : DevL) (m : DevM) (i : Nat) (hi : i < m.stable.length) (w : World) (h : DevAt w L m) :
    Calls Try.prog 45 #[.pointer (some ⟨L.d, 0, none⟩), .int .i64 (i : Int)] w fun e w' => e = .returned (.tuple #[.agg (secL (m.read i).1).toArray, .int .i64 (m.read i).2]) ∧ DevAt w' L m.tick ∧ Kept (· = L.d) w w' := by
  have hl := h.fits.len
  have hh : m.has (i : Int) = true := by simp [DevM.has]; omega
  have hh' : m.tick.has (i : Int) = true := hh
  have hn : i < m.now.length := by rw [DevM.now_length]; exact hi
  have hz := zeroSec
  have h := Lib.hid h
  have hlt := h.out.base.lt
  have hrd : Hid (m.read i = if m.dead then (sec0, 42) else (m.now[i], 0)) := Lib.hid (by simp [DevM.read, hh, hn])
  cases hd : m.dead
  all_goals
    rw [hd] at hrd
    go_enter Try.func45, Try.ntmps45
    go_wp2_with (first
      | ((with_reducible refine (count_any L m _ (h.out.alloc _)).mono ?_)
         rintro e w1 ⟨rfl, h1, k1, z1⟩
         have hb1 := Lib.hid ((Blk.new w 23 (secL sec0)).kept k1 (by omega))
         have z1 : w1.heap.size = w.heap.size + 1 := by simpa using z1.symm
         have c1 := h1.c1
         have c5 := h1.c5
         have d5 : m.tick.dead = m.dead := rfl
         have d0 : m.tick.stable.length = m.stable.length := rfl
         rw [d5, hd] at c5
         rw [d0] at c1
         clear d5 d0
         have r1 := Lib.hid (h1.nwRange (i := i) (by rw [DevM.now_length]; exact hi))
         have h1 := Lib.hid h1
         have k1 := Lib.hid k1)
      | ((with_reducible refine (has_any L m.tick _ _ h1.out (by unfold I64; omega)).mono ?_); rintro e w' ⟨rfl, rfl⟩; rw [hh'])
      | (refine wpList_build rfl 23 _ rfl (secL sec0) built_sec0 ?_)
      | (refine wpList_load_mid rfl 23 _ rfl L.nb (i * 128) (by rfl) (secL m.now[i]) _ r1.out Try.underlying23 rfl (infoSecL _) ?_)
      | (refine wpList_store_blk rfl 23 _ _ rfl w.heap.size 0 (by rfl) _ (by rfl) _ (secL sec0) _ hb1.out (by simp [secL_length]) (secL_one _) (infoSecL _) (whole_new (by simp [secL_length])) ?_
         intro w2 hb2 hk2 hs2
         have hb2 := Lib.hid hb2
         have hk2 := Lib.hid hk2))
    refine bodyPost_ret (results_row_tmp rfl (rowSec hb2.out)) rfl ⟨?_, h1.out.kept hk2.out (fun k hk e => by have := h.out.lt k hk; omega), ?_⟩
    · rw [hrd.out]; rfl
    · exact ((Kept.of_alloc _ w _).trans k1.out).then hk2.out fun k hk e => by omega

set_option maxHeartbeats 800000 in
theorem Read_out (L : DevL) (m : DevM) (i : Int) (hi : I64 i) (hh : m.has i = false) (w : World) (h : DevAt w L m) :
    Calls Try.prog 45 #[.pointer (some ⟨L.d, 0, none⟩), .int .i64 i] w fun e w' => e = .returned (.tuple #[.agg (secL (m.read i).1).toArray, .int .i64 (m.read i).2]) ∧ DevAt w' L m.tick ∧ Kept (· = L.d) w w' := by
  have hh' : m.tick.has i = false := hh
  have hz := zeroSec
  have h := Lib.hid h
  have hlt := h.out.base.lt
  have hrd : Hid (m.read i = (sec0, 41)) := Lib.hid (by simp [DevM.read, hh])
  go_enter Try.func45, Try.ntmps45
  go_wp2_with (first
    | ((with_reducible refine (count_any L m _ (h.out.alloc _)).mono ?_)
       rintro e w1 ⟨rfl, h1, k1, z1⟩
       have hb1 := Lib.hid ((Blk.new w 23 (secL sec0)).kept k1 (by omega))
       have z1 : w1.heap.size = w.heap.size + 1 := by simpa using z1.symm
       have h1 := Lib.hid h1
       have k1 := Lib.hid k1)
    | ((with_reducible refine (has_any L m.tick _ _ h1.out hi).mono ?_); rintro e w' ⟨rfl, rfl⟩; rw [hh'])
    | (refine wpList_build rfl 23 _ rfl (secL sec0) built_sec0 ?_)
    | (refine wpList_store_blk rfl 23 _ _ rfl w.heap.size 0 (by rfl) _ (by rfl) _ (secL sec0) _ hb1.out (by simp [secL_length]) (secL_one _) (infoSecL _) (whole_new (by simp [secL_length])) ?_
       intro w2 hb2 hk2 hs2
       have hb2 := Lib.hid hb2
       have hk2 := Lib.hid hk2))
  refine bodyPost_ret (results_row_tmp rfl (rowSec hb2.out)) rfl ⟨?_, h1.out.kept hk2.out (fun k hk e => by have := h.out.lt k hk; omega), ?_⟩
  · rw [hrd.out]; rfl
  · exact ((Kept.of_alloc _ w _).trans k1.out).then hk2.out fun k hk e => by omega

theorem Read_any (L : DevL) (m : DevM) (i : Int) (hi : I64 i) (w : World) (h : DevAt w L m) :
    Calls Try.prog 45 #[.pointer (some ⟨L.d, 0, none⟩), .int .i64 i] w fun e w' => e = .returned (.tuple #[.agg (secL (m.read i).1).toArray, .int .i64 (m.read i).2]) ∧ DevAt w' L m.tick ∧ Kept (· = L.d) w w' := by
  cases hh : m.has i
  · exact Read_out L m i hi hh w h
  · obtain ⟨k, rfl, hk⟩ := has_nat hh
    exact Read_in L m k hk w h
end Go.Proofs.Ytgdefibkemkejaa

/- A device: Write. -/
namespace Go.Proofs.Ytgdefibkemkejaa
open Go.ChangeShapes Go.WideShapes Go.ChangeAt Go.RowKit
set_option linter.unusedVariables false
set_option maxRecDepth 20000

theorem infoWr : (Try.prog.info? 130).map (fun i => (i.zero, i.size, i.bytes)) = some (some (.agg (wrL (0, sec0)).toArray), 129, 136) := by kernel_rfl
theorem infoWrL (p : Nat × Sec) : (Try.prog.info? 130).map (·.size) = some (wrL p).length := by
  rw [wrL_length]; kernel_rfl
theorem zeroWrL (p : Nat × Sec) : ((Try.prog.info? 130).bind (·.zero)).map (·.cells.size) = some (wrL p).length := by
  rw [wrL_length]; kernel_rfl
theorem infoSlWr : (Try.prog.info? 96).map (·.size) = some 1 := by kernel_rfl
theorem built_wr (i : Nat) (s : Sec) : Try.prog.built 130 [(0, .int .i64 (i : Int)), (1, .agg (secL s).toArray)] = some (wrL (i, s)).toArray := by
  have h1 : Try.prog.built 130 [(0, .int .i64 (i : Int)), (1, .agg (secL s).toArray)] = Instr.fill (#[(0, 1), (1, 128)][·]?) (wrL (0, sec0)).toArray [(0, .int .i64 (i : Int)), (1, .agg (secL s).toArray)] := by kernel_rfl
  rw [h1, fill_cons _ _ 0 _ _ 0 [.int .i64 (i : Int)] rfl rfl (by simp [wrL_length]), fill_cons _ _ 1 _ _ 1 (secL s) (by simp [secL_length]) rfl (by simp [wrL, secL_length]), fill_nil]
  simp [wrL, secL_length]
theorem one_of_owns {w : World} {base e size n : Nat} {v : Value} {xs : List Value} (h : w.ownsRow base e size v n xs) : v.oneCell' = true := by
  obtain ⟨ao, cap, rfl, _⟩ := owns_form h
  rfl

set_option maxHeartbeats 1000000 in
theorem Write_ok (L : DevL) (m m2 : DevM) (i : Nat) (s : Sec) (w : World) (h : DevAt w L m) (hi : i < m.stable.length) (hla : m.lasts = true) (hm2 : Hid (m2 = m.tick.spend)) (hp : m.pending.length ≤ 1000000000) :
    Calls Try.prog 64 #[.pointer (some ⟨L.d, 0, none⟩), .int .i64 (i : Int), .agg (secL s).toArray] w fun e w' => e = .returned (.int .i64 0) ∧
      ∃ pv', DevAt w' { L with pv := pv' } { m2 with pending := m2.pending ++ [(i, s)] } ∧ Kept L.foot w w' ∧ (pv'.ownBlock = L.pv.ownBlock ∨ ∃ g, pv'.ownBlock = some g ∧ w.heap.size ≤ g) := by
  obtain ⟨i0, hi0, hz0, hz1, hz2⟩ := info_parts infoWr
  have hl := h.fits.len
  have hh : m.tick.has (i : Int) = true := by simp [DevM.has, DevM.tick]; omega
  have hla' : m.tick.lasts = true := hla
  have hlt := h.base.lt
  have hp2 : m2.pending.length ≤ 1000000000 := by rw [hm2.out, DevM.spend_pending]; exact hp
  have h := Lib.hid h
  go_enter Try.func64, Try.ntmps64
  go_wp2_with (first
    | ((with_reducible refine (count_any L m _ (h.out.alloc _)).mono ?_)
       rintro e w1 ⟨rfl, h1, k1, z1⟩
       have hs1 := Lib.hid ((Blk.new w 23 (secL s)).kept k1 (by omega))
       have z1 : w1.heap.size = w.heap.size + 1 := by simpa using z1.symm
       have h1 := Lib.hid h1
       have k1 := Lib.hid k1)
    | ((with_reducible refine (has_any L m.tick _ _ h1.out (by unfold I64; omega)).mono ?_); rintro e w' ⟨rfl, rfl⟩; rw [hh])
    | ((with_reducible refine (lasts_any L m.tick _ h1.out).mono ?_)
       rintro e w2 ⟨rfl, h2, k2, z2⟩
       rw [hla']
       rw [← hm2.out] at h2
       have hs2 := Lib.hid (hs1.out.kept k2 (by omega))
       have z2 : w2.heap.size = w.heap.size + 1 := by omega
       have hlt2 := h2.base.lt
       have h2 := Lib.hid h2
       have k2 := Lib.hid k2))
  refine inO_region [(4, fun w' => w'.cell? ⟨L.d, 2, none⟩ = some (L.pv)), (6, fun w' => w'.rangeAt (w.heap.size) (0) (secL s))] (by kernel_rfl) (Owed.cons (h2.out.c2) (Owed.cons ((hs2.out.range fun j v hv => by simpa using hv)) (Owed.nil _ _))) ?_
  refine inO_take 0 ⟨_, _, _, _, _, _⟩ (.pointer (some ⟨L.d, 0, none⟩)) rfl (by kernel_rfl) (by kernel_rfl) (by kernel_rfl) (fun _ _ _ h => h) rfl (fun ww => exec_move (by rfl) (by rfl) ww) ?_
  simp only [Act.put, List.setIfInBounds_toArray, List.set_cons_zero, List.set_cons_succ]
  refine inO_take 1 ⟨_, _, _, _, _, _⟩ (.pointer (some ⟨L.d, 0, none⟩)) rfl (by kernel_rfl) (by kernel_rfl) (by kernel_rfl) (fun _ _ _ h => h) rfl (fun ww => exec_move (by rfl) (by rfl) ww) ?_
  simp only [Act.put, List.setIfInBounds_toArray, List.set_cons_zero, List.set_cons_succ]
  refine inO_take 2 ⟨_, _, _, _, _, _⟩ (.pointer (some ⟨L.d, 0, none⟩)) rfl (by kernel_rfl) (by kernel_rfl) (by kernel_rfl) (fun _ _ _ h => h) rfl (fun ww => exec_nilCheck (by rfl) (by rfl) ww) ?_
  simp only [Act.put, List.setIfInBounds_toArray, List.set_cons_zero, List.set_cons_succ]
  refine inO_take 3 ⟨_, _, _, _, _, _⟩ (.pointer (some ⟨L.d, 2, none⟩)) rfl (by kernel_rfl) (by kernel_rfl) (by kernel_rfl) (fun _ _ _ h => h) rfl (fun ww => by go_simp) ?_
  simp only [Act.put, List.setIfInBounds_toArray, List.set_cons_zero, List.set_cons_succ]
  refine inO_load 4 ⟨_, _, _, _, _, _⟩ (L.pv) (fun w' => w'.cell? ⟨L.d, 2, none⟩ = some (L.pv)) rfl (by kernel_rfl) (by kernel_rfl) (by kernel_rfl) (fun _ _ _ h => h) rfl (.head _) (fun ww hw => by go_simp) ?_
  simp only [Act.put, List.setIfInBounds_toArray, List.set_cons_zero, List.set_cons_succ]
  refine inO_take 5 ⟨_, _, _, _, _, _⟩ (.int .i64 (i : Int)) rfl (by kernel_rfl) (by kernel_rfl) (by kernel_rfl) (fun _ _ _ h => h) rfl (fun ww => exec_move (by rfl) (by rfl) ww) ?_
  simp only [Act.put, List.setIfInBounds_toArray, List.set_cons_zero, List.set_cons_succ]
  refine inO_load 6 ⟨_, _, _, _, _, _⟩ (.agg (secL s).toArray) (fun w' => w'.rangeAt (w.heap.size) (0) (secL s)) rfl (by kernel_rfl) (by kernel_rfl) (by kernel_rfl) (fun _ _ _ h => h) rfl (.tail _ (.head _)) (fun ww hw => exec_load_mid _ _ (by rfl) _ _ (by rfl) _ _ hw Try.underlying23 rfl (infoSecL _)) ?_
  simp only [Act.put, List.setIfInBounds_toArray, List.set_cons_zero, List.set_cons_succ]
  refine inO_take 7 ⟨_, _, _, _, _, _⟩ (.agg (wrL (i, s)).toArray) rfl (by kernel_rfl) (by kernel_rfl) (by kernel_rfl) (fun _ _ _ h => h) rfl (fun ww => exec_build _ _ (by rfl) _ _ (by rfl) (built_wr i s) ww) ?_
  simp only [Act.put, List.setIfInBounds_toArray, List.set_cons_zero, List.set_cons_succ]
  refine inO_step 8 ⟨_, _, _, _, _, _⟩ rfl (by kernel_rfl) rfl (fun K hK => ?_)
  refine wp_buildOne 96 130 _ rfl (wrL (i, s)) rfl Try.underlying96 (infoWrL _) (zeroWrL _) (by rw [wrL_length]; omega) (by rw [wrL_length]; decide) ?_
  refine hK _ _ (Keeps.cons (fun hh => cell_alloc hh _) (Keeps.late (by kernel_rfl) (Keeps.nil _ _ _))) ?_
  clear hK K
  simp only [Act.put, List.setIfInBounds_toArray, List.set_cons_zero, List.set_cons_succ]
  refine inO_step 9 ⟨_, _, _, _, _, _⟩ rfl (by kernel_rfl) rfl (fun K hK => ?_)
  refine wp_push _ _ 96 rfl 0 130 i0 _ 129 136 Try.underlying96 hi0 hz0 hz1 hz2 (List.size_toArray.trans (wrL_length _)) (by omega) L.pv m2.pending.length (rowsL wrL m2.pending) rfl (World.ownsRow.alloc h2.out.drew.pe _) w2.heap.size 1 (wrL (i, s)) rfl (Blk.new _ _ _) (wrL_length _) (wrL_one _) (by unfold maxLen; omega) (by omega) (Nat.zero_le _) ?_
  intro v' w4 ho4 hg4 hat4
  refine hK _ _ (Keeps.late (by kernel_rfl) (Keeps.late (by kernel_rfl) (Keeps.nil _ _ _))) ?_
  clear hK K
  simp only [Act.put, List.setIfInBounds_toArray, List.set_cons_zero, List.set_cons_succ]
  refine inO_take 10 ⟨_, _, _, _, _, _⟩ (.pointer (some ⟨L.d, 0, none⟩)) rfl (by kernel_rfl) (by kernel_rfl) (by kernel_rfl) (fun _ _ _ h => h) rfl (fun ww => exec_nilCheck (by rfl) (by rfl) ww) ?_
  simp only [Act.put, List.setIfInBounds_toArray, List.set_cons_zero, List.set_cons_succ]
  refine inO_take 11 ⟨_, _, _, _, _, _⟩ (.pointer (some ⟨L.d, 2, none⟩)) rfl (by kernel_rfl) (by kernel_rfl) (by kernel_rfl) (fun _ _ _ h => h) rfl (fun ww => by go_simp) ?_
  simp only [Act.put, List.setIfInBounds_toArray, List.set_cons_zero, List.set_cons_succ]
  refine inO_step 12 ⟨_, _, _, _, _, _⟩ rfl (by kernel_rfl) rfl (fun K hK => ?_)
  refine wp_store_cell 96 _ _ rfl ⟨L.d, 2, none⟩ rfl v' L.pv rfl (one_of_owns ho4) infoSlWr (by rw [Kept.cell (Kept.of_grown (F := fun k => L.pv.ownBlock = some k) hg4 (fun k hk _ => hk)) (by simp; exact Nat.lt_succ_of_lt hlt2) h2.out.dp]; exact (h2.out.drew.alloc _).c2) (by rw [Kept.frozen (Kept.of_grown (F := fun k => L.pv.ownBlock = some k) hg4 (fun k hk _ => hk)) (by simp; exact Nat.lt_succ_of_lt hlt2) h2.out.dp]; exact (h2.out.drew.alloc _).fz 2) ?_
  refine hK _ _ (Keeps.late (by kernel_rfl) (Keeps.late (by kernel_rfl) (Keeps.nil _ _ _))) ?_
  clear hK K
  simp only [Act.put]
  refine inO_done (by kernel_rfl) ?_
  obtain ⟨w5, hw5⟩ : ∃ w5 : World, w5 = w4.setCell ⟨L.d, 2, none⟩ v' := ⟨_, rfl⟩
  have k4 : Kept (fun k => L.pv.ownBlock = some k) (w2.drew.alloc (.cells (wrL (i, s)).toArray 130)) w4 := Kept.of_grown hg4 (fun k hk _ => hk)
  have k5 : Kept (· = L.d) w4 w5 := by rw [hw5]; exact Kept.cellAt w4 _ _ _
  have hz4 := hg4.size
  have hsz4 : w2.heap.size + 1 ≤ w4.heap.size := by simpa using hz4
  have hsz5 := k5.size
  have hb4 : Blk w4 L.d 98 _ := (h2.out.drew.alloc _).base.kept k4 h2.out.dp
  have hb5 := hb4.set 2 v'
  rw [← hw5] at hb5 ⊢
  have c15 : w5.cell? ⟨L.d, 1, none⟩ = some (.slice (some ⟨L.nb, 0, none⟩) m2.stable.length m2.stable.length) := by rw [hb5.cell]; rfl
  have hn5 := Lib.hid (((h2.out.drew.alloc (.cells (wrL (i, s)).toArray 130)).nw.kept k4 h2.out.np).kept k5 h2.out.dn.symm)
  have ht5 := Lib.hid (((h2.out.drew.alloc (.cells (wrL (i, s)).toArray 130)).st.kept k4 h2.out.sp).kept k5 h2.out.ds.symm)
  have hvd : v'.ownBlock ≠ some L.d := by
    rcases hat4 with e | e <;> rw [e]
    · exact h2.out.dp
    · intro e'; injection e' with e'; simp at e'; omega
  have hp5 := Lib.hid (owns_kept ho4 k5 (fun g hg e => hvd (e ▸ hg)))
  have hpb : L.pv.ownBlock ≠ some w.heap.size := fun e => by have := h.out.lt _ (.inr (.inr (.inr e))); omega
  have hs5 := Lib.hid (((hs2.out.drew.alloc (.cells (wrL (i, s)).toArray 130)).kept k4 hpb).kept k5 (by omega))
  have hin : i < m2.now.length := by rw [DevM.now_length, hm2.out, DevM.spend_stable]; exact hi
  have hin2 : (i : Int) < (m2.stable.length : Int) := by rw [DevM.now_length] at hin; omega
  have hi2 : (0 : Int) ≤ (i : Int) := by omega
  have hb5 := Lib.hid hb5
  have k4 := Lib.hid k4
  have k5 := Lib.hid k5
  have hat4 := Lib.hid hat4
  have hg4 := Lib.hid hg4
  have ho4 := Lib.hid ho4
  clear hw5 hb4 hvd
  go_wp2
  refine inO_region [(3, fun w' => w'.cell? ⟨L.d, 1, none⟩ = some (.slice (some ⟨L.nb, 0, none⟩) m2.stable.length m2.stable.length)), (5, fun w' => w'.rangeAt (w.heap.size) (0) (secL s))] (by kernel_rfl) (Owed.cons (c15) (Owed.cons ((hs5.out.range fun j v hv => by simpa using hv)) (Owed.nil _ _))) ?_
  refine inO_take 0 ⟨_, _, _, _, _, _⟩ (.pointer (some ⟨L.d, 0, none⟩)) rfl (by kernel_rfl) (by kernel_rfl) (by kernel_rfl) (fun _ _ _ h => h) rfl (fun ww => exec_move (by rfl) (by rfl) ww) ?_
  simp only [Act.put, List.setIfInBounds_toArray, List.set_cons_zero, List.set_cons_succ]
  refine inO_take 1 ⟨_, _, _, _, _, _⟩ (.pointer (some ⟨L.d, 0, none⟩)) rfl (by kernel_rfl) (by kernel_rfl) (by kernel_rfl) (fun _ _ _ h => h) rfl (fun ww => exec_nilCheck (by rfl) (by rfl) ww) ?_
  simp only [Act.put, List.setIfInBounds_toArray, List.set_cons_zero, List.set_cons_succ]
  refine inO_take 2 ⟨_, _, _, _, _, _⟩ (.pointer (some ⟨L.d, 1, none⟩)) rfl (by kernel_rfl) (by kernel_rfl) (by kernel_rfl) (fun _ _ _ h => h) rfl (fun ww => by go_simp) ?_
  simp only [Act.put, List.setIfInBounds_toArray, List.set_cons_zero, List.set_cons_succ]
  refine inO_load 3 ⟨_, _, _, _, _, _⟩ (.slice (some ⟨L.nb, 0, none⟩) m2.stable.length m2.stable.length) (fun w' => w'.cell? ⟨L.d, 1, none⟩ = some (.slice (some ⟨L.nb, 0, none⟩) m2.stable.length m2.stable.length)) rfl (by kernel_rfl) (by kernel_rfl) (by kernel_rfl) (fun _ _ _ h => h) rfl (.head _) (fun ww hw => by go_simp) ?_
  simp only [Act.put, List.setIfInBounds_toArray, List.set_cons_zero, List.set_cons_succ]
  refine inO_take 4 ⟨_, _, _, _, _, _⟩ (.int .i64 (i : Int)) rfl (by kernel_rfl) (by kernel_rfl) (by kernel_rfl) (fun _ _ _ h => h) rfl (fun ww => exec_move (by rfl) (by rfl) ww) ?_
  simp only [Act.put, List.setIfInBounds_toArray, List.set_cons_zero, List.set_cons_succ]
  refine inO_load 5 ⟨_, _, _, _, _, _⟩ (.agg (secL s).toArray) (fun w' => w'.rangeAt (w.heap.size) (0) (secL s)) rfl (by kernel_rfl) (by kernel_rfl) (by kernel_rfl) (fun _ _ _ h => h) rfl (.tail _ (.head _)) (fun ww hw => exec_load_mid _ _ (by rfl) _ _ (by rfl) _ _ hw Try.underlying23 rfl (infoSecL _)) ?_
  simp only [Act.put, List.setIfInBounds_toArray, List.set_cons_zero, List.set_cons_succ]
  refine inO_take 6 ⟨_, _, _, _, _, _⟩ (.pointer (some ⟨L.nb, i * 128, none⟩)) rfl (by kernel_rfl) (by kernel_rfl) (by kernel_rfl) (fun _ _ _ h => h) rfl (fun ww => by go_simp) ?_
  simp only [Act.put, List.setIfInBounds_toArray, List.set_cons_zero, List.set_cons_succ]
  refine inO_step 7 ⟨_, _, _, _, _, _⟩ rfl (by kernel_rfl) rfl (fun K hK => ?_)
  refine wp_store_blk 23 _ _ rfl L.nb (i * 128) rfl (secL s) rfl _ (rowsL secL m2.now) (rowsL secL (m2.now.set i s)) hn5.out.drew (by rw [rowsL_length secL_length, secL_length]; omega) (secL_one _) (infoSecL _) (by rw [rowsL_set secL_length _ _ hin, secL_length]) ?_
  intro w6 hn6 k6 z6
  refine hK _ _ (Keeps.late (by kernel_rfl) (Keeps.late (by kernel_rfl) (Keeps.nil _ _ _))) ?_
  clear hK K
  simp only [Act.put]
  refine inO_done (by kernel_rfl) ?_
  go_wp2
  go_ret
  have hnb := h2.out.ne
  refine ⟨rfl, v', ⟨?_, ht5.out.drew.kept k6 hnb, ?_, ?_, hnb, ?_⟩, ?_, ?_⟩
  · have := hb5.out.drew.kept k6 h2.out.dn
    simpa using this
  · have : (DevM.now { m2 with pending := m2.pending ++ [(i, s)] }) = m2.now.set i s := putAll_snoc _ _ _
    rw [this]
    exact hn6
  · have h1 : (m2.pending ++ [(i, s)]).length = m2.pending.length + 1 := by simp
    rw [h1, rowsL_append, rowsL_one]
    refine owns_kept (owns_kept (F := fun _ => False) hp5.out (Kept.refl _ w5).drew fun _ _ => id) k6 fun g hg e => ?_
    subst e
    rcases hat4.out with e' | e' <;> rw [e'] at hg
    · exact h2.out.np hg
    · injection hg with hg; simp at hg; have := h2.out.nw.lt; omega
  · have hf := h2.out.fits
    refine ⟨hf.ops, hf.left, hf.len, fun p hp => ?_⟩
    rcases List.mem_append.1 hp with hp | hp
    · exact hf.at_ p hp
    · simp at hp; subst hp; rw [DevM.now_length] at hin; exact hin
  · have q1 : Kept L.foot w w2 := ((Kept.of_alloc L.foot w _).then k1.out fun i _ e => .inl e).then k2.out fun i _ e => .inl e
    have q2 : Kept L.foot w (w2.drew.alloc (.cells (wrL (i, s)).toArray 130)) := q1.drew.alloc _
    exact ((q2.then k4.out fun i _ e => .inr (.inr (.inr e))).then k5.out fun i _ e => .inl e).drew.then k6 fun i _ e => .inr (.inr (.inl e))
  · rcases hat4.out with e | e
    · exact .inl e
    · exact .inr ⟨_, e, by simp; omega⟩
end Go.Proofs.Ytgdefibkemkejaa

/- A device: Write, whatever is written; a device as an object. -/
namespace Go.Proofs.Ytgdefibkemkejaa
open Go.ChangeShapes Go.WideShapes Go.ChangeAt Go.RowKit
set_option linter.unusedVariables false
set_option maxRecDepth 20000

/-- a device behind a call -/
def DevStep (w : World) (L : DevL) (m' : DevM) (w' : World) : Prop :=
  ∃ pv', DevAt w' { L with pv := pv' } m' ∧ Kept L.foot w w' ∧ (pv'.ownBlock = L.pv.ownBlock ∨ pv'.ownBlock = none ∨ ∃ g, pv'.ownBlock = some g ∧ w.heap.size ≤ g)
theorem DevStep.of {w w' : World} {L : DevL} {m' : DevM} {F : Nat → Prop} (h : DevAt w' L m') (k : Kept F w w') (hF : ∀ i, F i → L.foot i) : DevStep w L m' w' :=
  ⟨L.pv, h, k.mono fun i _ => hF i, .inl rfl⟩

set_option maxHeartbeats 1000000 in
theorem Write_no (L : DevL) (m : DevM) (i : Int) (hi : I64 i) (s : Sec) (w : World) (h : DevAt w L m) (hh : m.has i = false) :
    Calls Try.prog 64 #[.pointer (some ⟨L.d, 0, none⟩), .int .i64 i, .agg (secL s).toArray] w fun e w' => e = .returned (.int .i64 41) ∧ DevStep w L m.tick w' := by
  have hh' : m.tick.has i = false := hh
  have h := Lib.hid h
  go_enter Try.func64, Try.ntmps64
  go_wp2_with (first
    | ((with_reducible refine (count_any L m _ (h.out.alloc _)).mono ?_)
       rintro e w1 ⟨rfl, h1, k1, z1⟩
       have h1 := Lib.hid h1
       have k1 := Lib.hid k1)
    | ((with_reducible refine (has_any L m.tick _ _ h1.out hi).mono ?_); rintro e w' ⟨rfl, rfl⟩; rw [hh']))
  go_ret
  exact ⟨rfl, DevStep.of h1.out ((Kept.of_alloc _ w _).trans k1.out) (fun i e => .inl e)⟩

set_option maxHeartbeats 1000000 in
theorem Write_off (L : DevL) (m : DevM) (i : Nat) (s : Sec) (w : World) (h : DevAt w L m) (hi : i < m.stable.length) (hla : m.lasts = false) :
    Calls Try.prog 64 #[.pointer (some ⟨L.d, 0, none⟩), .int .i64 (i : Int), .agg (secL s).toArray] w fun e w' => e = .returned (.int .i64 42) ∧ DevStep w L m.tick.spend w' := by
  have hl := h.fits.len
  have hh : m.tick.has (i : Int) = true := by simp [DevM.has, DevM.tick]; omega
  have hla' : m.tick.lasts = false := hla
  have h := Lib.hid h
  go_enter Try.func64, Try.ntmps64
  go_wp2_with (first
    | ((with_reducible refine (count_any L m _ (h.out.alloc _)).mono ?_)
       rintro e w1 ⟨rfl, h1, k1, z1⟩
       have h1 := Lib.hid h1
       have k1 := Lib.hid k1)
    | ((with_reducible refine (has_any L m.tick _ _ h1.out (by unfold I64; omega)).mono ?_); rintro e w' ⟨rfl, rfl⟩; rw [hh])
    | ((with_reducible refine (lasts_any L m.tick _ h1.out).mono ?_)
       rintro e w2 ⟨rfl, h2, k2, z2⟩
       rw [hla']
       have h2 := Lib.hid h2
       have k2 := Lib.hid k2))
  go_ret
  exact ⟨rfl, DevStep.of h2.out (((Kept.of_alloc _ w _).trans k1.out).trans k2.out) (fun i e => .inl e)⟩

theorem Write_any (L : DevL) (m : DevM) (i : Int) (hi : I64 i) (s : Sec) (w : World) (h : DevAt w L m) (hp : m.pending.length ≤ 1000000000) :
    Calls Try.prog 64 #[.pointer (some ⟨L.d, 0, none⟩), .int .i64 i, .agg (secL s).toArray] w fun e w' => e = .returned (.int .i64 (m.write i s).2) ∧ DevStep w L (m.write i s).1 w' := by
  cases hh : m.has i
  · refine (Write_no L m i hi s w h hh).mono ?_
    rintro e w' ⟨rfl, hs⟩
    exact ⟨by simp [DevM.write, hh], by simpa [DevM.write, hh] using hs⟩
  · obtain ⟨k, rfl, hk⟩ := has_nat hh
    cases hla : m.lasts
    · refine (Write_off L m k s w h hk hla).mono ?_
      rintro e w' ⟨rfl, hs⟩
      exact ⟨by simp [DevM.write, hh, hla], by simpa [DevM.write, hh, hla] using hs⟩
    · refine (Write_ok L m _ k s w h hk hla (Lib.hid rfl) hp).mono ?_
      rintro e w' ⟨rfl, pv', h1, h2, h3⟩
      have e1 : m.tick.spend.pending = m.pending := DevM.spend_pending _
      rw [e1] at h1
      refine ⟨by simp [DevM.write, hh, hla], pv', by simpa [DevM.write, hh, hla] using h1, h2, ?_⟩
      rcases h3 with h3 | h3
      · exact .inl h3
      · exact .inr (.inr h3)

section
variable {w w' : World} {d : Nat} {F : Nat → Prop} {m m' : DevM}
/-- behind a call on an object: it is there, and only it has turned -/
def Turned (w : World) (d : Nat) (F : Nat → Prop) (m' : DevM) (w' : World) : Prop := ∃ F', IsDev w' d F' m' ∧ Kept F w w' ∧ Grows w.heap.size F F'
theorem DevStep.turned {L : DevL} (h : DevStep w L m' w') (hF : ∀ k, L.foot k → F k) : Turned w L.d F m' w' := by
  obtain ⟨pv', h1, h2, h3⟩ := h
  refine ⟨DevL.foot { L with pv := pv' }, ⟨{ L with pv := pv' }, rfl, h1, fun _ => id, h1.lt⟩, h2.mono fun i _ => hF i, ?_⟩
  rintro k (rfl | rfl | rfl | e)
  · exact .inl (hF _ (.inl rfl))
  · exact .inl (hF _ (.inr (.inl rfl)))
  · exact .inl (hF _ (.inr (.inr (.inl rfl))))
  · rcases h3 with h3 | h3 | ⟨g, h3, hg⟩
    · exact .inl (hF _ (.inr (.inr (.inr (h3 ▸ e)))))
    · rw [h3] at e; cases e
    · rw [h3] at e; cases e; exact .inr hg
theorem IsDev.kept {G : Nat → Prop} (h : IsDev w d F m) (k : Kept G w w') (hn : ∀ i, F i → ¬ G i) : IsDev w' d F m := by
  obtain ⟨L, e, h1, h2, h3⟩ := h
  exact ⟨L, e, h1.kept k fun i hi => hn i (h2 i hi), h2, fun i hi => Nat.lt_of_lt_of_le (h3 i hi) k.size⟩
theorem IsDev.below (h : IsDev w d F m) (hb : Below w.heap.size w w') : IsDev w' d F m := h.kept (G := fun _ => False) (Kept.of_below hb _) fun _ _ => id
theorem IsDev.alloc (h : IsDev w d F m) (o : Obj) : IsDev (w.alloc o) d F m := h.kept (G := fun _ => False) (Kept.of_alloc _ _ _) fun _ _ => id
theorem IsDev.lt (h : IsDev w d F m) : ∀ k, F k → k < w.heap.size := by obtain ⟨L, _, _, _, h1⟩ := h; exact h1
theorem IsDev.fits (h : IsDev w d F m) : m.Fits := by obtain ⟨L, _, h1, _⟩ := h; exact h1.fits
end
end Go.Proofs.Ytgdefibkemkejaa

/- A device in the midst of a settling: plain facts on lists; how it lies. -/
namespace Go.Proofs.Ytgdefibkemkejaa
open Go.ChangeShapes Go.WideShapes Go.ChangeAt Go.RowKit
set_option linter.unusedVariables false
set_option maxRecDepth 20000

theorem kept_nil (k : Nat → Bool) : DevM.kept k [] = [] := rfl
theorem kept_snoc (k : Nat → Bool) (p : List (Nat × Sec)) (x : Nat × Sec) : DevM.kept k (p ++ [x]) = DevM.kept k p ++ (if k p.length then [x] else []) := by
  unfold DevM.kept
  rw [List.zipIdx_append, List.filter_append, List.map_append]
  congr 1
  cases h : k p.length <;> simp [h]
theorem kept_take (k : Nat → Bool) (p : List (Nat × Sec)) (j : Nat) (h : j < p.length) : DevM.kept k (p.take (j + 1)) = DevM.kept k (p.take j) ++ (if k j then [p[j]] else []) := by
  rw [List.take_succ_eq_append_getElem h, kept_snoc]
  simp [Nat.min_eq_left (Nat.le_of_lt h)]
theorem kept_sub (k : Nat → Bool) (p : List (Nat × Sec)) : ∀ x ∈ DevM.kept k p, x ∈ p := by
  intro x hx
  unfold DevM.kept at hx
  obtain ⟨⟨y, n⟩, hy, rfl⟩ := List.mem_map.1 hx
  have := (List.mem_filter.1 hy).1
  have h2 := List.mem_zipIdx this
  simp at h2 ⊢
  obtain ⟨h3, h4⟩ := h2
  rw [h4]
  exact List.getElem_mem _
theorem kept_true (p : List (Nat × Sec)) : DevM.kept (fun _ => true) p = p := by
  unfold DevM.kept
  rw [List.filter_eq_self.2 (by simp)]
  exact List.zipIdx_map_fst 0 p

theorem putAll_get (l : List Sec) (p : List (Nat × Sec)) (i : Nat) (h : i ∉ p.map (·.1)) : (putAll l p)[i]? = l[i]? := by
  induction p generalizing l with
  | nil => rfl
  | cons x r ih =>
    rw [putAll_cons, ih _ (fun hm => h (by simp at hm ⊢; exact .inr hm)), List.getElem?_set_ne]
    intro e; subst e; exact h (by simp)

/-- the newest sectors are what is stable, one pending write after the other -/
def back (nw st : List Sec) (p : List (Nat × Sec)) : List Sec := p.foldl (fun l x => l.set x.1 (st.getD x.1 sec0)) nw
theorem back_nil (nw st : List Sec) : back nw st [] = nw := rfl
theorem back_snoc (nw st : List Sec) (p : List (Nat × Sec)) (x : Nat × Sec) : back nw st (p ++ [x]) = (back nw st p).set x.1 (st.getD x.1 sec0) := by simp [back]
theorem back_take (nw st : List Sec) (p : List (Nat × Sec)) (j : Nat) (h : j < p.length) : back nw st (p.take (j + 1)) = (back nw st (p.take j)).set p[j].1 (st.getD p[j].1 sec0) := by
  rw [List.take_succ_eq_append_getElem h, back_snoc]
theorem back_length (nw st : List Sec) (p : List (Nat × Sec)) : (back nw st p).length = nw.length := by
  induction p generalizing nw with
  | nil => rfl
  | cons x r ih => show (back (nw.set x.1 _) st r).length = _; rw [ih, List.length_set]
theorem back_get (nw st : List Sec) (p : List (Nat × Sec)) (i : Nat) (hi : i < nw.length) : (back nw st p)[i]? = if i ∈ p.map (·.1) then some (st.getD i sec0) else nw[i]? := by
  induction p generalizing nw with
  | nil => simp [back]
  | cons x r ih =>
    show (back (nw.set x.1 _) st r)[i]? = _
    rw [ih _ (by rw [List.length_set]; exact hi)]
    by_cases h1 : i ∈ r.map (·.1)
    · have : i ∈ (x :: r).map (·.1) := by simp at h1 ⊢; exact .inr h1
      rw [if_pos h1, if_pos this]
    · rw [if_neg h1]
      by_cases h2 : x.1 = i
      · subst h2
        rw [if_pos (by simp), List.getElem?_set_self hi]
      · rw [List.getElem?_set_ne h2, if_neg]
        simp at h1 ⊢
        exact ⟨fun e => h2 e.symm, h1⟩
theorem back_all (m : DevM) (k : Nat → Bool) : back m.now (putAll m.stable (DevM.kept k m.pending)) m.pending = putAll m.stable (DevM.kept k m.pending) := by
  apply List.ext_getElem?
  intro i
  by_cases hi : i < m.now.length
  · have hi2 : i < m.stable.length := by rw [DevM.now_length] at hi; exact hi
    rw [back_get _ _ _ _ hi]
    split
    · rw [List.getD_eq_getElem?_getD, List.getElem?_eq_getElem (by rw [putAll_length]; exact hi2)]
      rfl
    · rename_i hn
      rw [putAll_get _ _ _ (fun hm => hn ?_), DevM.now, putAll_get _ _ _ hn]
      obtain ⟨x, hx, e⟩ := List.mem_map.1 hm
      exact List.mem_map.2 ⟨x, kept_sub k _ x hx, e⟩
  · rw [List.getElem?_eq_none (by rw [back_length]; omega), List.getElem?_eq_none (by rw [putAll_length]; rw [DevM.now_length] at hi; omega)]

/-- a device of which some sectors are as told -/
structure MidAt (w : World) (L : DevL) (m : DevM) (ss ns : List Sec) : Prop where
  base : Blk w L.d 98 [.slice (some ⟨L.sb, 0, none⟩) m.stable.length m.stable.length, .slice (some ⟨L.nb, 0, none⟩) m.stable.length m.stable.length, L.pv, .int .i64 (m.ops : Int), .int .i64 m.left, .bool m.dead]
  st : Blk w L.sb 23 (rowsL secL ss)
  nw : Blk w L.nb 23 (rowsL secL ns)
  pe : w.ownsRow 0 130 129 L.pv m.pending.length (rowsL wrL m.pending)
  ne : L.sb ≠ L.nb
  sl : ss.length = m.stable.length
  nl : ns.length = m.stable.length

section
variable {w w' : World} {L : DevL} {m : DevM} {st nw : List Sec} {F : Nat → Prop}
theorem DevAt.mid (h : DevAt w L m) : MidAt w L m m.stable m.now := ⟨h.base, h.st, h.nw, h.pe, h.ne, rfl, m.now_length⟩
theorem MidAt.ds (h : MidAt w L m st nw) : L.d ≠ L.sb := h.base.ne h.st (by decide)
theorem MidAt.dn (h : MidAt w L m st nw) : L.d ≠ L.nb := h.base.ne h.nw (by decide)
theorem MidAt.dp (h : MidAt w L m st nw) : L.pv.ownBlock ≠ some L.d := Own.ne_blk h.pe h.base (by decide)
theorem MidAt.sp (h : MidAt w L m st nw) : L.pv.ownBlock ≠ some L.sb := Own.ne_blk h.pe h.st (by decide)
theorem MidAt.np (h : MidAt w L m st nw) : L.pv.ownBlock ≠ some L.nb := Own.ne_blk h.pe h.nw (by decide)
theorem MidAt.kept (h : MidAt w L m st nw) (k : Kept F w w') (hn : ∀ i, L.foot i → ¬ F i) : MidAt w' L m st nw :=
  ⟨h.base.kept k (hn _ (.inl rfl)), h.st.kept k (hn _ (.inr (.inl rfl))), h.nw.kept k (hn _ (.inr (.inr (.inl rfl)))), owns_kept h.pe k fun g hg => hn g (.inr (.inr (.inr hg))), h.ne, h.sl, h.nl⟩
theorem MidAt.lt (h : MidAt w L m st nw) : ∀ k, L.foot k → k < w.heap.size := by
  rintro k (rfl | rfl | rfl | e)
  · exact h.base.lt
  · exact h.st.lt
  · exact h.nw.lt
  · exact (World.ownsRow.lt h.pe k e).2
theorem MidAt.drew (h : MidAt w L m st nw) : MidAt w.drew L m st nw := h.kept (F := fun _ => False) (Kept.refl _ w).drew fun _ _ => id
theorem MidAt.alloc (h : MidAt w L m st nw) (o : Obj) : MidAt (w.alloc o) L m st nw := h.kept (F := fun _ => False) (Kept.of_alloc _ _ _) fun _ _ => id
theorem MidAt.putSt (h : MidAt w L m st nw) {st' : List Sec} (hl : st'.length = st.length) (hb : Blk w' L.sb 23 (rowsL secL st')) (k : Kept (· = L.sb) w w') : MidAt w' L m st' nw :=
  ⟨h.base.kept k h.ds, hb, h.nw.kept k h.ne.symm, owns_kept h.pe k (fun g hg e => h.sp (e ▸ hg)), h.ne, hl.trans h.sl, h.nl⟩
theorem MidAt.putNw (h : MidAt w L m st nw) {nw' : List Sec} (hl : nw'.length = nw.length) (hb : Blk w' L.nb 23 (rowsL secL nw')) (k : Kept (· = L.nb) w w') : MidAt w' L m st nw' :=
  ⟨h.base.kept k h.dn, h.st.kept k h.ne, hb, owns_kept h.pe k (fun g hg e => h.np (e ▸ hg)), h.ne, h.sl, hl.trans h.nl⟩
theorem MidAt.c0 (h : MidAt w L m st nw) : w.cell? ⟨L.d, 0, none⟩ = some (.slice (some ⟨L.sb, 0, none⟩) m.stable.length m.stable.length) := by rw [h.base.cell]; rfl
theorem MidAt.c1 (h : MidAt w L m st nw) : w.cell? ⟨L.d, 1, none⟩ = some (.slice (some ⟨L.nb, 0, none⟩) m.stable.length m.stable.length) := by rw [h.base.cell]; rfl
theorem MidAt.c2 (h : MidAt w L m st nw) : w.cell? ⟨L.d, 2, none⟩ = some L.pv := by rw [h.base.cell]; rfl
theorem MidAt.fz (h : MidAt w L m st nw) (i : Nat) : w.frozen? ⟨L.d, i, none⟩ = false := h.base.frozen i
theorem MidAt.stRange (h : MidAt w L m st nw) {i : Nat} (hi : i < st.length) : w.rangeAt L.sb (i * 128) (secL st[i]) := h.st.range fun j v hv => rowsL_at secL_length st i hi j v hv
theorem MidAt.nwRange (h : MidAt w L m st nw) {i : Nat} (hi : i < nw.length) : w.rangeAt L.nb (i * 128) (secL nw[i]) := h.nw.range fun j v hv => rowsL_at secL_length nw i hi j v hv
/-- the k-th pending write -/
theorem MidAt.peRange (h : MidAt w L m st nw) {g n cap : Nat} (hv : L.pv = .slice (some ⟨g, 0, none⟩) n cap) {k : Nat} (hk : k < m.pending.length) : w.rangeAt g (k * 129) (wrL m.pending[k]) := fun j v hj => by
  have hp := h.pe
  rw [hv] at hp
  obtain ⟨ao, c, e, hg⟩ := owns_form hp
  injection e with e1 e2 e3
  subst e2
  have h1 := rowsL_at wrL_length m.pending k hk j v hj
  have hjl : k * 129 + j < (rowsL wrL m.pending).length := (List.getElem?_eq_some_iff.1 h1).1
  rw [World.ownsRow.cellAt hp (k * 129 + j) (by rw [rowsL_length wrL_length] at hjl; omega)]
  exact h1
end
end Go.Proofs.Ytgdefibkemkejaa

/- A device: settle, for both closures that it is handed. -/
namespace Go.Proofs.Ytgdefibkemkejaa
open Go.ChangeShapes Go.WideShapes Go.ChangeAt Go.RowKit
set_option linter.unusedVariables false
set_option maxRecDepth 20000

theorem zeroWr (w : World) : Sem.run Try.prog (zeroValue 130) w = .ok (.agg (wrL (0, sec0)).toArray) w := by kernel_rfl

end Go.Proofs.Ytgdefibkemkejaa
