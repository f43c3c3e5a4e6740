/- A device as plain data: what each call does to it. -/
import Derived.Test.YtfpacnokecfhmaaSec
namespace Go.Proofs.Ytfpacnokecfhmaa
open Go.RowKit
set_option linter.unusedVariables false

/-- a device: what is stable, what is pending, how many calls, how many more are done, is the power gone -/
structure DevM where
  stable : List Sec
  pending : List (Nat × Sec)
  ops : Nat
  left : Int
  dead : Bool

/-- the sectors behind some writes -/
def putAll (l : List Sec) (p : List (Nat × Sec)) : List Sec := p.foldl (fun l x => l.set x.1 x.2) l
theorem putAll_nil (l : List Sec) : putAll l [] = l := rfl
theorem putAll_snoc (l : List Sec) (p : List (Nat × Sec)) (x : Nat × Sec) : putAll l (p ++ [x]) = (putAll l p).set x.1 x.2 := by simp [putAll]
theorem putAll_cons (l : List Sec) (p : List (Nat × Sec)) (x : Nat × Sec) : putAll l (x :: p) = putAll (l.set x.1 x.2) p := rfl
theorem putAll_length (l : List Sec) (p : List (Nat × Sec)) : (putAll l p).length = l.length := by
  induction p generalizing l with
  | nil => rfl
  | cons x r ih => rw [putAll_cons, ih, List.length_set]

namespace DevM
/-- the sectors as they would be read -/
def now (m : DevM) : List Sec := putAll m.stable m.pending
theorem now_length (m : DevM) : m.now.length = m.stable.length := putAll_length _ _
/-- one call more -/
def tick (m : DevM) : DevM := { m with ops := min (m.ops + 1) 4611686018427387903 }
def has (m : DevM) (i : Int) : Bool := decide (0 ≤ i) && decide (i < m.stable.length)
def fresh (n : Nat) : DevM := ⟨List.replicate n sec0, [], 0, -1, false⟩
def newLen (n : Int) : Nat := (min (max n 0) 1024).toNat
def read (m : DevM) (i : Int) : Sec × Int :=
  if m.has i then (if m.dead then (sec0, 42) else (m.now.getD i.toNat sec0, 0)) else (sec0, 41)
def stab (m : DevM) (i : Int) : Sec := if m.has i then m.stable.getD i.toNat sec0 else sec0
/-- does the power last for one call more, and what is left -/
def lasts (m : DevM) : Bool := !(m.dead || m.left == 0)
def spend (m : DevM) : DevM := if m.lasts then { m with left := if 0 < m.left then m.left - 1 else m.left } else { m with dead := true }
def write (m : DevM) (i : Int) (s : Sec) : DevM × Int :=
  if m.has i then (if m.lasts then ({ m.tick.spend with pending := m.pending ++ [(i.toNat, s)] }, 0) else (m.tick.spend, 42)) else (m.tick, 41)
theorem spend_pending (m : DevM) : m.spend.pending = m.pending := by unfold spend; split <;> rfl
theorem spend_stable (m : DevM) : m.spend.stable = m.stable := by unfold spend; split <;> rfl
theorem spend_now (m : DevM) : m.spend.now = m.now := by unfold now; rw [spend_pending, spend_stable]
/-- those of the pending writes that are kept -/
def kept (k : Nat → Bool) (p : List (Nat × Sec)) : List (Nat × Sec) := ((p.zipIdx).filter fun x => k x.2).map (·.1)
def settle (m : DevM) (k : Nat → Bool) : DevM := { m with stable := putAll m.stable (kept k m.pending), pending := [] }
def flush (m : DevM) : DevM × Int := if m.lasts then ((m.tick.spend).settle (fun _ => true), 0) else (m.tick.spend, 42)
def brk (m : DevM) (n : Int) : DevM := { m with left := n }
def crash (m : DevM) (keep : List Bool) : DevM := { m.settle (fun k => keep.getD k false) with left := -1, dead := false }
def rot (m : DevM) (i : Int) (s : Sec) : DevM × Int :=
  if m.has i then ({ m with stable := m.stable.set i.toNat s, pending := m.pending.map fun p => (p.1, if p.1 = i.toNat then s else p.2) }, 0) else (m, 41)
/-- what always holds -/
structure Fits (m : DevM) : Prop where
  ops : m.ops ≤ 4611686018427387903
  left : -9223372036854775808 ≤ m.left ∧ m.left ≤ 9223372036854775807
  len : m.stable.length ≤ 1024
  at_ : ∀ p ∈ m.pending, p.1 < m.stable.length
end DevM
end Go.Proofs.Ytfpacnokecfhmaa
