/- What the calls answer, opened: a slice of letters and an error's number. -/
import Derived.Test.YtlbglcmajbhflaaSlogO
import Derived.Test.YtlbglcmajbhflaaSlogD
import Derived.Test.YtlbglcmajbhflaaSlogI
import Derived.Test.YtlbglcmajbhflaaSlogL
namespace Go.Proofs.Ytlbglcmajbhflaa
open Go.ChangeShapes Go.WideShapes Go.ChangeAt Go.RowKit
set_option linter.unusedVariables false
set_option maxRecDepth 20000

/-- a list of spans and an error's number -/
def SpansE (L0 : List (Int × Int)) (E0 : Int) (w : World) (e : Ending) (w' : World) : Prop :=
  ∃ co cc L E, e = .returned (.tuple #[.slice co (L : List (Int × Int)).length cc, .int .i64 E]) ∧ Hid (L = L0) ∧ Hid (E = E0) ∧ Hid (Spans w' co L) ∧ Below w.heap.size w w'
/-- a list of moves and an error's number -/
def MovesE (L0 : List (Bool × Int × Int)) (E0 : Int) (w : World) (e : Ending) (w' : World) : Prop :=
  ∃ co cc L E, e = .returned (.tuple #[.slice co (L : List (Bool × Int × Int)).length cc, .int .i64 E]) ∧ Hid (L = L0) ∧ Hid (E = E0) ∧ Hid (Moves w' co L) ∧ Below w.heap.size w w'
/-- a list of moves -/
def MovesS (L0 : List (Bool × Int × Int)) (w : World) (e : Ending) (w' : World) : Prop :=
  ∃ co cc L, e = .returned (.slice co (L : List (Bool × Int × Int)).length cc) ∧ Hid (L = L0) ∧ Hid (Moves w' co L) ∧ Below w.heap.size w w'
/-- bytes and an error's number -/
def BytesE (L0 : List UInt8) (E0 : Int) (w : World) (e : Ending) (w' : World) : Prop :=
  ∃ co cc L E, e = .returned (.tuple #[.slice co (L : List UInt8).length cc, .int .i64 E]) ∧ Hid (L = L0) ∧ Hid (E = E0) ∧ Hid (Bytes w' co L) ∧ L.length ≤ cc ∧ cc ≤ 9223372036854775807 ∧ Below w.heap.size w w'

theorem ReplRes.open {o : Option (List (Int × Int))} {w w' : World} {e : Ending} (h : ReplRes o w e w') : SpansE (o.getD []) (errM o) w e w' := by
  obtain ⟨v, rfl, ho, hb⟩ := h
  obtain ⟨co, cc, rfl, hs⟩ := ho.spans
  exact ⟨co, cc, _, _, rfl, rfl, rfl, hs, hb⟩
theorem ReadRes.open {o : Option (List (Bool × Int × Int))} {w w' : World} {e : Ending} (h : ReadRes o w e w') : MovesE (o.getD []) (errM o) w e w' := by
  obtain ⟨v, rfl, ho, hb⟩ := h
  obtain ⟨co, cc, rfl, hs, _⟩ := ho.shape
  exact ⟨co, cc, _, _, rfl, rfl, rfl, hs, hb⟩
theorem MovesRes.open {ms : List (Bool × Int × Int)} {w w' : World} {e : Ending} (h : MovesRes ms w e w') : MovesS ms w e w' := by
  obtain ⟨v, rfl, ho, hb⟩ := h
  obtain ⟨co, cc, rfl, hs, _⟩ := ho.shape
  exact ⟨co, cc, _, rfl, rfl, hs, hb⟩
theorem BytesRes.open {o : Option (List UInt8)} {w w' : World} {e : Ending} (h : BytesRes o w e w') : BytesE (o.getD []) (errM o) w e w' := by
  obtain ⟨v, rfl, ho, hb⟩ := h
  obtain ⟨co, cc, rfl, h1, h2, _, h4, _, _⟩ := ho.shape
  rw [bytesV_length] at h1 ⊢
  exact ⟨co, cc, _, _, rfl, rfl, rfl, h4, h1, by simpa [maxLen] using h2, hb⟩

theorem Replay_s (ao bo : Option Addr) (cap cap' : Nat) (xs : List (Int × Int)) (ms : List (Bool × Int × Int)) (w : World) (hx : Spans w ao xs) (hf : Fits xs) (hy : Moves w bo ms) (hg : FitM ms) :
    Calls Try.prog 10 #[.slice ao xs.length cap, .slice bo ms.length cap'] w (SpansE ((replayL xs ms).getD []) (errM (replayL xs ms)) w) := (Replay_any ao bo cap cap' xs ms w hx hf hy hg).mono fun _ _ h => h.open
theorem refReplay_s (ao bo : Option Addr) (cap cap' : Nat) (xs : List (Int × Int)) (ms : List (Bool × Int × Int)) (w : World) (hx : Spans w ao xs) (hf : Fits xs) (hy : Moves w bo ms) (hg : FitM ms) :
    Calls Try.prog 13 #[.slice ao xs.length cap, .slice bo ms.length cap'] w (SpansE ((replayL xs ms).getD []) (errM (replayL xs ms)) w) := (refReplay_any ao bo cap cap' xs ms w hx hf hy hg).mono fun _ _ h => h.open
theorem Diff_s (ao bo : Option Addr) (cap cap' : Nat) (xs ys : List (Int × Int)) (w : World) (hx : Spans w ao xs) (hf : Fits xs) (hy : Spans w bo ys) (hg : Fits ys) :
    Calls Try.prog 16 #[.slice ao xs.length cap, .slice bo ys.length cap'] w (MovesS (diffL xs ys) w) := (Diff_any ao bo cap cap' xs ys w hx hf hy hg).mono fun _ _ h => h.open
theorem refDiff_s (ao bo : Option Addr) (cap cap' : Nat) (xs ys : List (Int × Int)) (w : World) (hx : Spans w ao xs) (hf : Fits xs) (hy : Spans w bo ys) (hg : Fits ys) :
    Calls Try.prog 17 #[.slice ao xs.length cap, .slice bo ys.length cap'] w (MovesS (diffL xs ys) w) := (refDiff_any ao bo cap cap' xs ys w hx hf hy hg).mono fun _ _ h => h.open
theorem Condense_s (ao : Option Addr) (cap : Nat) (xs : List (Int × Int)) (w : World) (hx : Spans w ao xs) (hf : Fits xs) :
    Calls Try.prog 12 #[.slice ao xs.length cap] w (MovesS (diffL [] xs) w) := (Condense_any ao cap xs w hx hf).mono fun _ _ h => h.open
theorem mBytes_s (ao : Option Addr) (cap : Nat) (ms : List (Bool × Int × Int)) (w : World) (hx : Moves w ao ms) (hf : FitM ms) :
    Calls Try.prog 18 #[.slice ao ms.length cap] w (BytesE ((bytesM ms).getD []) (errM (bytesM ms)) w) := (mBytes_any ao cap ms w hx hf).mono fun _ _ h => h.open
theorem mRefBytes_s (ao : Option Addr) (cap : Nat) (ms : List (Bool × Int × Int)) (w : World) (hx : Moves w ao ms) (hf : FitM ms) :
    Calls Try.prog 19 #[.slice ao ms.length cap] w (BytesE ((bytesM ms).getD []) (errM (bytesM ms)) w) := (mRefBytes_any ao cap ms w hx hf).mono fun _ _ h => h.open
theorem mRead_s (bo : Option Addr) (cap : Nat) (bs : List UInt8) (w : World) (hx : Bytes w bo bs) (hc : bs.length ≤ cap) (hm : cap ≤ 9223372036854775807) :
    Calls Try.prog 20 #[.slice bo bs.length cap] w (MovesE ((readM bs).getD []) (errM (readM bs)) w) := (mRead_any bo cap bs w hx hc hm).mono fun _ _ h => h.open
theorem mRefRead_s (bo : Option Addr) (cap : Nat) (bs : List UInt8) (w : World) (hx : Bytes w bo bs) (hc : bs.length ≤ cap) (hm : cap ≤ 9223372036854775807) :
    Calls Try.prog 21 #[.slice bo bs.length cap] w (MovesE ((readM bs).getD []) (errM (readM bs)) w) := (mRefRead_any bo cap bs w hx hc hm).mono fun _ _ h => h.open
theorem SameM_yes (ao bo : Option Addr) (cap cap' : Nat) (xs : List (Bool × Int × Int)) (w : World) (hx : Moves w ao xs) (hy : Moves w bo xs) (hf : FitM xs) :
    Calls Try.prog 15 #[.slice ao xs.length cap, .slice bo xs.length cap'] w fun e w' => e = .returned (.bool true) ∧ Below w.heap.size w w' := by
  have := SameM_any ao bo cap cap' xs xs w hx hy hf hf
  simpa using this
theorem Same_yes (ao bo : Option Addr) (cap cap' : Nat) (xs : List (Int × Int)) (w : World) (hx : Spans w ao xs) (hy : Spans w bo xs) (hf : Fits xs) :
    Calls Try.prog 14 #[.slice ao xs.length cap, .slice bo xs.length cap'] w fun e w' => e = .returned (.bool true) ∧ Below w.heap.size w w' := by
  have := Same_any ao bo cap cap' xs xs w hx hy hf hf
  simpa using this
end Go.Proofs.Ytlbglcmajbhflaa
