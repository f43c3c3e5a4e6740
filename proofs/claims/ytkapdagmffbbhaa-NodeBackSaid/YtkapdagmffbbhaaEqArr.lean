/- '==' on arrays of bytes; what holds for every program. -/
import Derived.Test.YtkapdagmffbbhaaRow
import Derived.Laws.StructEq
namespace Go.Proofs.Ytkapdagmffbbhaa
open Go.ChangeShapes Go.WideShapes Go.ChangeAt Go.RowKit
set_option linter.unusedVariables false
set_option maxRecDepth 20000

section
variable {P : Program}
theorem run_part_byte (w : World) (e : TypeId) (he : P.underlying e = some (.int .u8)) (xs : List UInt8) (i : Nat) (h : i < xs.length) : (part e (bytesV xs).toArray i).run P w = .ok (byteV xs[i]) w := by
  have hg : (bytesV xs).toArray[i]? = some (byteV xs[i]) := by
    simp [bytesV, h]
  simp [part, isAgg, run_underlying he, hg]

theorem run_eqLoop (w : World) (xs ys : List UInt8) (hl : xs.length = ys.length) (f : Nat → (Option Bool × Unit) → Sem (ForInStep (Option Bool × Unit)))
    (hf : ∀ i (h : i < xs.length) s, (f i s).run P w = .ok (if xs[i] = ys[i] then .yield (none, ()) else .done (some false, ())) w) : ∀ (k i : Nat), i + k = xs.length →
    (forIn (m := Sem) (List.range' i k) ((none, ()) : Option Bool × Unit) f).run P w = .ok (if xs.drop i = ys.drop i then (none, ()) else (some false, ())) w := by
  intro k
  induction k with
  | zero =>
    intro i hi
    rw [List.drop_of_length_le (by omega), List.drop_of_length_le (by omega)]
    simp
  | succ k ih =>
    intro i hi
    have hx : i < xs.length := by omega
    have hy : i < ys.length := by omega
    have ih' := ih (i + 1) (by omega)
    rw [List.range'_succ, List.forIn_cons, Sem.run_bind, hf i hx]
    rw [List.drop_eq_getElem_cons hx, List.drop_eq_getElem_cons hy]
    by_cases hb : xs[i] = ys[i]
    · rw [if_pos hb]
      simp only [Result.andThen_ok, ih', hb, List.cons.injEq, true_and]
    · rw [if_neg hb]
      simp only [Result.andThen_ok, Sem.run_pure, List.cons.injEq, hb, false_and, if_false]

theorem run_equalIn_bytes (w : World) (d : Nat) (t e : TypeId) (n : Nat) (ht : P.underlying t = some (.array n e)) (he : P.underlying e = some (.int .u8)) (hs : (P.info? e).map (·.size) = some 1) (xs ys : List UInt8) (hx : xs.length = n) (hy : ys.length = n) :
    (Op.equalIn (d + 2) t (.agg (bytesV xs).toArray) (.agg (bytesV ys).toArray)).run P w = .ok (decide (xs = ys)) w := by
  have hsz : (sizeOf e).run P w = .ok 1 w := by
    cases hq : P.info? e with
    | none => simp [hq] at hs
    | some i => simp [hq] at hs; simp [sizeOf, typeInfo, hq, hs]
  have h1 : ∀ x y : UInt8, (Op.equalIn (d + 1) e (byteV x) (byteV y)).run P w = .ok (x == y) w := by
    intro x y
    unfold byteV
    rw [run_equalIn_int w d e .u8 .u8 _ _ he]
    congr 1
    rw [Bool.eq_iff_iff]
    simp [← UInt8.toNat_inj]; omega
  rw [show d + 2 = (d + 1) + 1 from rfl, Op.equalIn]
  simp only [Sem.run_bind, run_underlying ht, Result.andThen_ok, hsz]
  rw [Std.Legacy.Range.forIn_eq_forIn_range', show (Std.Legacy.Range.size [:n]) = n from by simp [Std.Legacy.Range.size]]
  rw [run_eqLoop (P := P) w xs ys (by omega) _ ?_ n 0 (by omega)]
  · by_cases h : xs = ys <;> simp [h]
  · intro i h s
    have hx' : i < xs.length := by omega
    have hy' : i < ys.length := by omega
    simp only [Nat.mul_one, Sem.run_bind, run_part_byte w e he xs i hx', run_part_byte w e he ys i hy', Result.andThen_ok, h1]
    by_cases hb : xs[i] = ys[i]
    · simp [hb]
    · simp [hb]
end
end Go.Proofs.Ytkapdagmffbbhaa
