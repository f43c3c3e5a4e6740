/- What the other laws of sum share. -/
import Derived.Test.YtbnfciefllbcdaaSumD
import Derived.Test.YtbnfciefllbcdaaStore
namespace Go.Proofs.Ytbnfciefllbcdaa
open Go.ChangeShapes Go.WideShapes Go.ChangeAt Go.RowKit
set_option linter.unusedVariables false

theorem Of_n (n : Nat) (ao : Option Addr) (bs : List UInt8) (cap : Nat) (w : World) (hb : Bytes w ao bs) (hn : bs.length = n) (hl : n ≤ 281474976710656) : Calls Try.prog 9 #[.slice ao n cap] w fun e w' => e = .returned (.int .u32 (crcMore 0 bs : Int)) ∧ w = w' := by
  subst hn
  exact Of_any ao bs cap w hb hl

theorem xor3_length {a b c : List UInt8} (h1 : a.length = b.length) (h2 : b.length = c.length) : (xor3 a b c).length = a.length := by
  induction a generalizing b c with
  | nil => rfl
  | cons x a ih =>
    cases b with
    | nil => simp at h1
    | cons y b =>
      cases c with
      | nil => simp at h2
      | cons z c => simp only [xor3, List.length_cons, ih (by simpa using h1) (by simpa using h2)]
theorem xor3_get {a b c : List UInt8} {k : Nat} (h1 : k < a.length) (h2 : k < b.length) (h3 : k < c.length) : (xor3 a b c)[k]? = some (a[k] ^^^ b[k] ^^^ c[k]) := by
  induction a generalizing b c k with
  | nil => simp at h1
  | cons x a ih =>
    cases b with
    | nil => simp at h2
    | cons y b =>
      cases c with
      | nil => simp at h3
      | cons z c =>
        cases k with
        | zero => rfl
        | succ k => simp only [xor3, List.getElem?_cons_succ, List.getElem_cons_succ]; exact ih (by simpa using h1) (by simpa using h2) (by simpa using h3)
theorem xor3_snoc {a b c : List UInt8} {k : Nat} (h1 : k < a.length) (h2 : k < b.length) (h3 : k < c.length) : (xor3 a b c).take (k + 1) = (xor3 a b c).take k ++ [a[k] ^^^ b[k] ^^^ c[k]] := by
  rw [List.take_add_one, xor3_get h1 h2 h3]; rfl
end Go.Proofs.Ytbnfciefllbcdaa
