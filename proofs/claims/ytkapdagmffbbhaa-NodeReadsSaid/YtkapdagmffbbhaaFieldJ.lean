/- field.Split answers the texts of bytes, for every input. -/
import Derived.Test.YtkapdagmffbbhaaFieldI
namespace Go.Proofs.Ytkapdagmffbbhaa
open Go.ChangeShapes Go.WideShapes Go.ChangeAt Go.RowKit
set_option linter.unusedVariables false
set_option maxRecDepth 20000

/-- so many texts -/
def splitT : Nat → List UInt8 → Option (List (List UInt8))
  | 0, b => if b.length = 0 then some [] else none
  | k + 1, b => if 2 ≤ b.length ∧ valB (b.take 2) ≤ b.length - 2 then (splitT k ((b.drop 2).drop (valB (b.take 2)))).map ((b.drop 2).take (valB (b.take 2)) :: ·) else none
/-- the texts of bytes -/
def splitL (b : List UInt8) : Option (List (List UInt8)) := if 2 ≤ b.length then splitT (valB (b.take 2)) (b.drop 2) else none

/-- what a Split answers -/
def SplitRes (o : Option (List (List UInt8))) (w : World) (e : Ending) (w' : World) : Prop :=
  ∃ v, e = .returned (.tuple #[v, .int .i64 (errN o)]) ∧ OwnT w' w.heap.size v (o.getD []) ∧ Below w.heap.size w w'

theorem SplitRes.no {o : Option (List (List UInt8))} {w w' : World} {e : Ending} (ho : o = none) (he : e = .returned (.tuple #[.slice none 0 0, .int .i64 21])) (hb : Below w.heap.size w w') : SplitRes o w e w' := by
  subst ho
  exact ⟨_, he, OwnT.nil _ _, hb⟩

theorem splitT_step {o : Option (List (List UInt8))} {k V : Nat} {b ss : List UInt8} {ts : List (List UInt8)} (h : o = (splitT (k + 1) b).map (ts ++ ·)) (hV : V = valB (b.take 2)) (hs : ss = b.drop 2) (h2 : 2 ≤ b.length) (hl : V ≤ ss.length) :
    o = (splitT k (ss.drop V)).map ((ts ++ [ss.take V]) ++ ·) := by
  subst hV hs
  rw [List.length_drop] at hl
  rw [h]
  simp only [splitT, if_pos (show 2 ≤ b.length ∧ valB (b.take 2) ≤ b.length - 2 from ⟨h2, hl⟩), Option.map_map', List.append_assoc, List.singleton_append]
theorem splitT_short {o : Option (List (List UInt8))} {k : Nat} {b : List UInt8} {ts : List (List UInt8)} (h : o = (splitT (k + 1) b).map (ts ++ ·)) (h2 : ¬ 2 ≤ b.length) : o = none := by
  rw [h]
  simp only [splitT, if_neg (show ¬ (2 ≤ b.length ∧ valB (b.take 2) ≤ b.length - 2) from fun hh => h2 hh.1), Option.map_none]
theorem splitT_long {o : Option (List (List UInt8))} {k V : Nat} {b ss : List UInt8} {ts : List (List UInt8)} (h : o = (splitT (k + 1) b).map (ts ++ ·)) (hV : V = valB (b.take 2)) (hs : ss = b.drop 2) (hl : ¬ V ≤ ss.length) : o = none := by
  subst hV hs
  rw [List.length_drop] at hl
  rw [h]
  simp only [splitT, if_neg (show ¬ (2 ≤ b.length ∧ valB (b.take 2) ≤ b.length - 2) from fun hh => hl hh.2), Option.map_none]
theorem splitT_end {o : Option (List (List UInt8))} {b : List UInt8} {ts : List (List UInt8)} (h : o = (splitT 0 b).map (ts ++ ·)) : o = if b.length = 0 then some ts else none := by
  rw [h]
  simp only [splitT]
  split <;> simp

end Go.Proofs.Ytkapdagmffbbhaa
