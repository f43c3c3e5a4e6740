/- How a sector reads that came in. -/
import Derived.Test.YtkapdagmffbbhaaSec
import Derived.Test.YtkapdagmffbbhaaArgs
namespace Go.Proofs.Ytkapdagmffbbhaa
open Go.ChangeShapes Go.WideShapes Go.ChangeAt Go.RowKit Go.Deep
set_option linter.unusedVariables false
set_option maxRecDepth 20000

theorem sec_cells {H : Type} {enc : TypeId × Value → H} {w : World} {base : Nat} {spare : Nat → Bool} {held : Bool} {fuel : Nat} {cs : List Value} {x : DataW H × List MemPlace}
    (h : DataW.trod enc Try.prog w base spare held fuel 23 cs = some x) : ∃ s : Sec, cs = secL s := by
  obtain ⟨xs, m, _, _, hl, hxl, hi⟩ := DataW.trod_array Try.underlying23 h
  have hc : Try.prog.cellsOf 5 = 1 := by kernel_rfl
  have hc2 : Try.prog.cellsOf 23 = 128 := by kernel_rfl
  rw [hc2] at hl
  have hb : ∀ i (h : i < cs.length), ∃ b : UInt8, cs[i] = byteV b := fun i h => by
    have := hi i (by omega)
    rw [hc, Nat.mul_one, List.drop_eq_getElem_cons h, List.getElem?_eq_getElem (by omega)] at this
    obtain ⟨n, hn, _, hwf⟩ := DataW.trod_int Try.underlying5 this
    rw [List.take_succ_cons, List.take_zero] at hn
    injection hn with hn _
    exact ⟨UInt8.ofNat n.toNat, by rw [hn]; exact byteV_cell (wf_u8 hwf)⟩
  refine ⟨⟨cs.map fun v => match v with | .int _ z => UInt8.ofNat z.toNat | _ => 0, by simpa using hl⟩, ?_⟩
  unfold secL bytesV
  apply List.ext_getElem
  · simp
  · intro i h1 h2
    obtain ⟨b, hb'⟩ := hb i h1
    simp [hb', byteV]

theorem arg_sec {H : Type} {enc : TypeId × Value → H} {W : World} {base : Nat} {v : Value} {d : DataW H} {ps : List MemPlace}
    (h : DataW.Trod enc Try.prog W 0 (fun _ => true) true 23 v d ps) (hv : Value.okWide Try.prog W .any base 23 v) : ∃ s : Sec, v = .agg (secL s).toArray := by
  obtain ⟨cs, rfl⟩ : ∃ cs, v = .agg cs := by
    simp only [Value.okWide, Try.underlying23] at hv
    obtain ⟨cs, h1, _⟩ := hv
    exact ⟨cs, h1⟩
  obtain ⟨fuel, hf⟩ := h
  obtain ⟨s, e⟩ := sec_cells hf
  refine ⟨s, ?_⟩
  rw [← e]
  rfl
end Go.Proofs.Ytkapdagmffbbhaa
