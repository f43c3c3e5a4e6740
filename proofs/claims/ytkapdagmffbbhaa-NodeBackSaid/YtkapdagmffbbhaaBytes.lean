/- How a slice of bytes reads that came in; a literal's cells; the string of a slice. -/
import Derived.Test.YtkapdagmffbbhaaArgs
import Derived.Lib.SlBytesConst
namespace Go.Proofs.Ytkapdagmffbbhaa
open Go.ChangeShapes Go.WideShapes Go.ChangeAt Go.RowKit Go.Deep
set_option linter.unusedVariables false
set_option maxRecDepth 20000

section
variable {H : Type} {enc : TypeId × Value → H} {W : World} {base : Nat} {v : Value} {d : DataW H} {p : List MemPlace}
theorem arg_bytes (h : DataW.Trod enc Try.prog W 0 (fun _ => true) true 46 v d p) (hv : Value.okWide Try.prog W .any base 46 v)
    (hw : ∀ es sp, d = .slice es sp → (es.length + sp.length) * Try.prog.bytesOf 5 ≤ reachBytes) : ∃ (ao : Option Addr) (bs : List UInt8) (cap : Nat), v = .slice ao bs.length cap ∧ Bytes W ao bs ∧ (bs.length ≤ cap ∧ cap ≤ 140737488351232) ∧ (ao = none → cap = 0) := by
  obtain ⟨ao, bs, cap, h1, h2, h3, h4, h5⟩ := argBytes Try.underlying46 Try.underlying5 (by kernel_rfl) (by kernel_rfl) h hv hw
  exact ⟨ao, bs, cap, h1, h2, ⟨h3, h4⟩, h5⟩
end

theorem Reads.lit (w : World) (cur : Array Value) (e : TypeId) (fr : Nat × Nat := (0, 0)) : Reads (w.alloc (.cells cur e fr)) (some ⟨w.heap.size, 0, none⟩) cur.toList := by
  intro i hi
  refine ⟨w.heap.size, 0, rfl, ?_⟩
  have hi' : i < cur.size := by simpa using hi
  rw [cell_of_row (w.alloc (.cells cur e fr)) w.heap.size (0 + i) cur e fr (heap_alloc_new w _)]
  simp [hi']

theorem str_at {w : World} {ao : Option Addr} {bs : List UInt8} (n cap : Nat) (h : Bytes w ao bs) (hn : bs.length = n) : (convert 46 9 (.slice ao n cap)).run Try.prog w = .ok (.string (strOf bs)) w := by
  subst hn
  exact run_str 46 9 5 Try.underlying46 Try.underlying5 Try.underlying9 cap h

theorem infoU8 : (Try.prog.info? 5).map (fun i => (i.zero, i.size, i.bytes)) = some (some (.int .u8 0), 1, 1) := by kernel_rfl

end Go.Proofs.Ytkapdagmffbbhaa
