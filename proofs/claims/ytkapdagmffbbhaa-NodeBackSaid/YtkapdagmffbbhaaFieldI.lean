/- field.Join and the document's Join answer the same bytes, for every input. -/
import Derived.Test.YtkapdagmffbbhaaFieldH
namespace Go.Proofs.Ytkapdagmffbbhaa
open Go.ChangeShapes Go.WideShapes Go.ChangeAt Go.RowKit
set_option linter.unusedVariables false
set_option maxRecDepth 20000

/-- texts side by side -/
def joinT : List (List UInt8) → Option (List UInt8)
  | [] => some []
  | t :: r => if t.length ≤ 65535 then (joinT r).map (leB 2 t.length ++ t ++ ·) else none
def joinL (ts : List (List UInt8)) : Option (List UInt8) := if ts.length ≤ 65535 then (joinT ts).map (leB 2 ts.length ++ ·) else none

theorem joinT_step {ts : List (List UInt8)} {k : Nat} {t bs : List UInt8} {o : Option (List UInt8)} (h : o = (joinT (ts.drop k)).map (bs ++ ·)) (hd : ts.drop k = t :: ts.drop (k + 1)) (hl : t.length ≤ 65535) :
    o = (joinT (ts.drop (k + 1))).map ((bs ++ leB 2 t.length ++ t) ++ ·) := by
  rw [h, hd]
  simp only [joinT, if_pos hl, Option.map_map', List.append_assoc]
theorem joinT_stop {ts : List (List UInt8)} {k : Nat} {t bs : List UInt8} {o : Option (List UInt8)} (h : o = (joinT (ts.drop k)).map (bs ++ ·)) (hd : ts.drop k = t :: ts.drop (k + 1)) (hl : ¬ t.length ≤ 65535) : o = none := by
  rw [h, hd]
  simp only [joinT, if_neg hl, Option.map_none]
theorem joinT_end {ts : List (List UInt8)} {k : Nat} {bs : List UInt8} {o : Option (List UInt8)} (h : o = (joinT (ts.drop k)).map (bs ++ ·)) (hk : ts.length ≤ k) : o = some bs := by
  rw [h, List.drop_of_length_le hk]; simp [joinT]

theorem put2_any (base : Nat) (v : Value) (bs : List UInt8) (z : Nat) (w : World) (hown : Own w base 5 v (bytesV bs)) (hbase : base ≤ w.heap.size) (hz : z < 18446744073709551616) (hl : bs.length + 8 ≤ 140737488355328) :
    Calls Try.prog 33 #[v, .int .i64 2, .int .u64 (z : Int)] w fun e w' => ∃ v', e = .returned v' ∧ Own w' base 5 v' (bytesV (bs ++ leB 2 z)) ∧ Grew w w' v v' :=
  fPut_any base v bs 2 z w hown hbase (by omega) hz hl

theorem refNumber2_any (z : Nat) (w : World) (hz : z < 18446744073709551616) :
    Calls Try.prog 29 #[.int .u64 (z : Int), .int .i64 2] w fun e w' => ∃ v', e = .returned (.tuple #[v', .bool (fitsB 2 z)]) ∧ Own w' w.heap.size 5 v' (bytesV (leB 2 z)) ∧ Below w.heap.size w w' :=
  refNumber_any 2 z w (by omega) hz

end Go.Proofs.Ytkapdagmffbbhaa
