/- Sectors as values: 128 bytes. -/
import Derived.Test.YtkapdagmffbbhaaEqArr
import Derived.Test.YtkapdagmffbbhaaArgs
namespace Go.Proofs.Ytkapdagmffbbhaa
open Go.ChangeShapes Go.WideShapes Go.ChangeAt Go.RowKit
set_option linter.unusedVariables false
set_option maxRecDepth 20000

abbrev Sec := {l : List UInt8 // l.length = 128}
/-- a sector's cells -/
def secL (s : Sec) : List Value := bytesV s.1
theorem secL_length (s : Sec) : (secL s).length = 128 := by unfold secL; rw [bytesV_length]; exact s.2
theorem secL_one (s : Sec) : ∀ v ∈ secL s, v.oneCell' = true := bytesV_one s.1
theorem bytesV_inj {a b : List UInt8} (h : bytesV a = bytesV b) : a = b := by
  induction a generalizing b with
  | nil => cases b with
    | nil => rfl
    | cons y r => simp [bytesV] at h
  | cons x r ih => cases b with
    | nil => simp [bytesV] at h
    | cons y s =>
      simp only [bytesV, List.map_cons, List.cons.injEq] at h
      have h1 := ih h.2
      have h2 : x = y := by
        have h3 := h.1
        unfold byteV at h3
        injection h3 with _ h3
        exact UInt8.toNat_inj.1 (by omega)
      rw [h1, h2]
theorem secL_inj {s t : Sec} (h : secL s = secL t) : s = t := Subtype.ext (bytesV_inj h)
def sec0 : Sec := ⟨List.replicate 128 0, by simp⟩
theorem zeroSec (w : World) : Sem.run Try.prog (zeroValue 23) w = .ok (.agg (secL sec0).toArray) w := by kernel_rfl
theorem built_sec0 : Try.prog.built 23 [] = some (secL sec0).toArray := by kernel_rfl
theorem infoSec : (Try.prog.info? 23).map (·.size) = some 128 := by kernel_rfl
theorem infoSecL (s : Sec) : (Try.prog.info? 23).map (·.size) = some (secL s).length := by rw [infoSec, secL_length]
theorem infoU8' : (Try.prog.info? 5).map (·.size) = some 1 := by kernel_rfl
theorem eqSec (w : World) (s t : Sec) : (Op.equalIn 10000 23 (.agg (secL s).toArray) (.agg (secL t).toArray)).run Try.prog w = .ok (decide (s = t)) w := by
  have h := run_equalIn_bytes (P := Try.prog) w 9998 23 5 128 Try.underlying23 Try.underlying5 infoU8' s.1 t.1 s.2 t.2
  rw [show (10000 : Nat) = 9998 + 2 from rfl]
  unfold secL
  rw [h]
  congr 1
  simp [Subtype.ext_iff]
end Go.Proofs.Ytkapdagmffbbhaa
