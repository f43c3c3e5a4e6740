/-
  No cell of these rows narrows 'for every input' (looked for: loops, veiled, ifaces, maps, wideKeys, modest, calm, conditions, laid).
  DERIVED. THE GIVEN ROWS OF THIS SEAT. 7 by the template 'for every input the law returns true; each argument reads behind the call as it read before'; 0 by the template 'total and deterministic' (their statements: YtlbglcmajbhflaaTotals.lean).
  GIVEN WITH THE SEED: the statements are not yours to turn. If you find one false, say at which input.
  Laid BY PROGRAM, IN A SANDBOX (cutbox-rows.mjs): the forced cells as the released guide's own fill.sh prints them over the translation 5f8aefb6083f4960… (all of the seat's roots in one cut). By AI agents, Wed Nov 11 2026. No macro, syntax, notation, axiom, sorry.
-/
import Derived.Test.YtlbglcmajbhflaaChecked
import GoSem.Claim
import GoSem.ClaimJoined
import GoSem.ClaimMapViews
import Derived.JoinedTies
import Derived.KernelRfl
namespace Go.Proofs.Ytlbglcmajbhflaa
/- THE CELL 'sum', in the pinned program and in every row, IS THE sha256 OF THE DUMP (.gsa) THAT YtlbglcmajbhflaaProg.lean LOADS. Nothing in Lean hashes anything: it is a label: what it is worth is what the hold of that sum in a sandbox is worth. -/
noncomputable def Try.pinned : Pinned := { name := "ytlbglcmajbhflaa", sum := "5f8aefb6083f49603a32f745674c09da65d9cad5d54f4a99ee812b9683463d71", checked := Try.checked }
namespace Rows
def none {H : Type} : Left H := { results := [], args := [] }

/-- 'aquiferlaw08.SlogNames': WHATEVER THE INPUT: true; the input reads as it did. -/
def slogNamesSpec : ChangeSpec := { name := "slogNames", fn := fun _ => fun
  | [] => { results := [.lit (.bool true)], args := [] }
  | _ => none }
def slogNamesRow : OpenClaim := { program := "ytlbglcmajbhflaa", sum := "5f8aefb6083f49603a32f745674c09da65d9cad5d54f4a99ee812b9683463d71", func := "aquifer/aquiferlaw08.SlogNames", spec := "slogNames", unfollowed := true, recurses := true, apart := false }
def SlogNamesSaid : Prop := slogNamesRow.holds Try.pinned (OpenSpec.ofChange slogNamesSpec)

/-- ITS FALSE NEIGHBOUR: 'it returns false'. Refute it at one input. -/
def slogNamesWrong : ChangeSpec := { name := "slogNames", fn := fun _ => fun
  | [] => { results := [.lit (.bool false)], args := [] }
  | _ => none }
def SlogNamesWrongFalsely : Prop := slogNamesRow.holds Try.pinned (OpenSpec.ofChange slogNamesWrong)

/-- 'aquiferlaw08.SlogReplays': WHATEVER THE INPUT: true; the input reads as it did. -/
def slogReplaysSpec : ChangeSpec := { name := "slogReplays", fn := fun _ => fun
  | [d1, d2] => { results := [.lit (.bool true)], args := [d1, d2] }
  | _ => none }
def slogReplaysRow : OpenClaim := { program := "ytlbglcmajbhflaa", sum := "5f8aefb6083f49603a32f745674c09da65d9cad5d54f4a99ee812b9683463d71", func := "aquifer/aquiferlaw08.SlogReplays", spec := "slogReplays", unfollowed := true, recurses := true, apart := false }
def SlogReplaysSaid : Prop := slogReplaysRow.holds Try.pinned (OpenSpec.ofChange slogReplaysSpec)

/-- ITS FALSE NEIGHBOUR: 'it returns false'. Refute it at one input. -/
def slogReplaysWrong : ChangeSpec := { name := "slogReplays", fn := fun _ => fun
  | [d1, d2] => { results := [.lit (.bool false)], args := [d1, d2] }
  | _ => none }
def SlogReplaysWrongFalsely : Prop := slogReplaysRow.holds Try.pinned (OpenSpec.ofChange slogReplaysWrong)

/-- 'aquiferlaw08.SlogDiffs': WHATEVER THE INPUT: true; the input reads as it did. -/
def slogDiffsSpec : ChangeSpec := { name := "slogDiffs", fn := fun _ => fun
  | [d1, d2] => { results := [.lit (.bool true)], args := [d1, d2] }
  | _ => none }
def slogDiffsRow : OpenClaim := { program := "ytlbglcmajbhflaa", sum := "5f8aefb6083f49603a32f745674c09da65d9cad5d54f4a99ee812b9683463d71", func := "aquifer/aquiferlaw08.SlogDiffs", spec := "slogDiffs", unfollowed := true, recurses := true, apart := false }
def SlogDiffsSaid : Prop := slogDiffsRow.holds Try.pinned (OpenSpec.ofChange slogDiffsSpec)

/-- ITS FALSE NEIGHBOUR: 'it returns false'. Refute it at one input. -/
def slogDiffsWrong : ChangeSpec := { name := "slogDiffs", fn := fun _ => fun
  | [d1, d2] => { results := [.lit (.bool false)], args := [d1, d2] }
  | _ => none }
def SlogDiffsWrongFalsely : Prop := slogDiffsRow.holds Try.pinned (OpenSpec.ofChange slogDiffsWrong)

/-- 'aquiferlaw08.SlogBytes': WHATEVER THE INPUT: true; the input reads as it did. -/
def slogBytesSpec : ChangeSpec := { name := "slogBytes", fn := fun _ => fun
  | [d1, d2] => { results := [.lit (.bool true)], args := [d1, d2] }
  | _ => none }
def slogBytesRow : OpenClaim := { program := "ytlbglcmajbhflaa", sum := "5f8aefb6083f49603a32f745674c09da65d9cad5d54f4a99ee812b9683463d71", func := "aquifer/aquiferlaw08.SlogBytes", spec := "slogBytes", unfollowed := true, recurses := true, apart := false }
def SlogBytesSaid : Prop := slogBytesRow.holds Try.pinned (OpenSpec.ofChange slogBytesSpec)

/-- ITS FALSE NEIGHBOUR: 'it returns false'. Refute it at one input. -/
def slogBytesWrong : ChangeSpec := { name := "slogBytes", fn := fun _ => fun
  | [d1, d2] => { results := [.lit (.bool false)], args := [d1, d2] }
  | _ => none }
def SlogBytesWrongFalsely : Prop := slogBytesRow.holds Try.pinned (OpenSpec.ofChange slogBytesWrong)

/-- 'aquiferlaw08.SlogLeads': WHATEVER THE INPUT: true; the input reads as it did. -/
def slogLeadsSpec : ChangeSpec := { name := "slogLeads", fn := fun _ => fun
  | [d1, d2, d3] => { results := [.lit (.bool true)], args := [d1, d2, d3] }
  | _ => none }
def slogLeadsRow : OpenClaim := { program := "ytlbglcmajbhflaa", sum := "5f8aefb6083f49603a32f745674c09da65d9cad5d54f4a99ee812b9683463d71", func := "aquifer/aquiferlaw08.SlogLeads", spec := "slogLeads", unfollowed := true, recurses := true, apart := false }
def SlogLeadsSaid : Prop := slogLeadsRow.holds Try.pinned (OpenSpec.ofChange slogLeadsSpec)

/-- ITS FALSE NEIGHBOUR: 'it returns false'. Refute it at one input. -/
def slogLeadsWrong : ChangeSpec := { name := "slogLeads", fn := fun _ => fun
  | [d1, d2, d3] => { results := [.lit (.bool false)], args := [d1, d2, d3] }
  | _ => none }
def SlogLeadsWrongFalsely : Prop := slogLeadsRow.holds Try.pinned (OpenSpec.ofChange slogLeadsWrong)

/-- 'aquiferlaw08.SlogParts': WHATEVER THE INPUT: true; the input reads as it did. -/
def slogPartsSpec : ChangeSpec := { name := "slogParts", fn := fun _ => fun
  | [d1, d2, d3] => { results := [.lit (.bool true)], args := [d1, d2, d3] }
  | _ => none }
def slogPartsRow : OpenClaim := { program := "ytlbglcmajbhflaa", sum := "5f8aefb6083f49603a32f745674c09da65d9cad5d54f4a99ee812b9683463d71", func := "aquifer/aquiferlaw08.SlogParts", spec := "slogParts", unfollowed := true, recurses := true, apart := false }
def SlogPartsSaid : Prop := slogPartsRow.holds Try.pinned (OpenSpec.ofChange slogPartsSpec)

/-- ITS FALSE NEIGHBOUR: 'it returns false'. Refute it at one input. -/
def slogPartsWrong : ChangeSpec := { name := "slogParts", fn := fun _ => fun
  | [d1, d2, d3] => { results := [.lit (.bool false)], args := [d1, d2, d3] }
  | _ => none }
def SlogPartsWrongFalsely : Prop := slogPartsRow.holds Try.pinned (OpenSpec.ofChange slogPartsWrong)

/-- 'aquiferlaw08.SlogBack': WHATEVER THE INPUT: true; the input reads as it did. -/
def slogBackSpec : ChangeSpec := { name := "slogBack", fn := fun _ => fun
  | [d1, d2, d3] => { results := [.lit (.bool true)], args := [d1, d2, d3] }
  | _ => none }
def slogBackRow : OpenClaim := { program := "ytlbglcmajbhflaa", sum := "5f8aefb6083f49603a32f745674c09da65d9cad5d54f4a99ee812b9683463d71", func := "aquifer/aquiferlaw08.SlogBack", spec := "slogBack", unfollowed := true, recurses := true, apart := false }
def SlogBackSaid : Prop := slogBackRow.holds Try.pinned (OpenSpec.ofChange slogBackSpec)

/-- ITS FALSE NEIGHBOUR: 'it returns false'. Refute it at one input. -/
def slogBackWrong : ChangeSpec := { name := "slogBack", fn := fun _ => fun
  | [d1, d2, d3] => { results := [.lit (.bool false)], args := [d1, d2, d3] }
  | _ => none }
def SlogBackWrongFalsely : Prop := slogBackRow.holds Try.pinned (OpenSpec.ofChange slogBackWrong)

/- THE SECOND FORM. 'bulk': how many values and letters a reading holds, each counted each time it is reached (what is shared counts as often as it is met; a slice's spare places count too). A statement '..UptoSaid' is the law's where the arguments, and the package variables that the reading takes, are together of bulk at most 1048576: NARROWER than '..Said'. Prove '..Said' where nothing that the law and all that it calls make is longer than what came in: it says more and counts as full. Else prove '..UptoSaid'. A law counts once. -/
mutual
def uptoBulk {H : Type} : DataW H → Nat
  | .lit (.string bytes) => bytes.length + 1
  | .lit _ => 1
  | .nil => 1
  | .ptr d => uptoBulk d + 1
  | .slice elems spare => uptoBulkAll elems + uptoBulkAll spare + 1
  | .agg parts => uptoBulkAll parts + 1
  | .iface _ d => uptoBulk d + 1
  | .map entries => uptoBulkEntries entries + 1
  | .held _ => 1
def uptoBulkAll {H : Type} : List (DataW H) → Nat
  | [] => 0
  | d :: r => uptoBulk d + uptoBulkAll r
def uptoBulkEntries {H : Type} : List (Lit × DataW H) → Nat
  | [] => 0
  | x :: r => uptoBulkEntry x + uptoBulkEntries r
def uptoBulkEntry {H : Type} : Lit × DataW H → Nat
  | (.string bytes, d) => bytes.length + uptoBulk d + 1
  | (_, d) => uptoBulk d + 1
 end
def uptoSmall : (H : Type) → List (DataW H) → Bool := fun _ ds => decide (uptoBulkAll ds ≤ 1048576)
def OpenSpec.upto (s : _root_.Go.ChangeSpec) : _root_.Go.OpenSpec := { _root_.Go.OpenSpec.ofChange s with cond := some uptoSmall }

/-- 'aquiferlaw08.SlogNames', WHERE WHAT IT READS IS OF BULK AT MOST 1048576: true; the input reads as it did. -/
def slogNamesUptoRow : OpenClaim := { program := "ytlbglcmajbhflaa", sum := "5f8aefb6083f49603a32f745674c09da65d9cad5d54f4a99ee812b9683463d71", func := "aquifer/aquiferlaw08.SlogNames", spec := "slogNames", unfollowed := true, recurses := true, apart := false, narrowed := true }
def SlogNamesUptoSaid : Prop := slogNamesUptoRow.holds Try.pinned (OpenSpec.upto slogNamesSpec)

/-- 'aquiferlaw08.SlogReplays', WHERE WHAT IT READS IS OF BULK AT MOST 1048576: true; the input reads as it did. -/
def slogReplaysUptoRow : OpenClaim := { program := "ytlbglcmajbhflaa", sum := "5f8aefb6083f49603a32f745674c09da65d9cad5d54f4a99ee812b9683463d71", func := "aquifer/aquiferlaw08.SlogReplays", spec := "slogReplays", unfollowed := true, recurses := true, apart := false, narrowed := true }
def SlogReplaysUptoSaid : Prop := slogReplaysUptoRow.holds Try.pinned (OpenSpec.upto slogReplaysSpec)

/-- 'aquiferlaw08.SlogDiffs', WHERE WHAT IT READS IS OF BULK AT MOST 1048576: true; the input reads as it did. -/
def slogDiffsUptoRow : OpenClaim := { program := "ytlbglcmajbhflaa", sum := "5f8aefb6083f49603a32f745674c09da65d9cad5d54f4a99ee812b9683463d71", func := "aquifer/aquiferlaw08.SlogDiffs", spec := "slogDiffs", unfollowed := true, recurses := true, apart := false, narrowed := true }
def SlogDiffsUptoSaid : Prop := slogDiffsUptoRow.holds Try.pinned (OpenSpec.upto slogDiffsSpec)

/-- 'aquiferlaw08.SlogBytes', WHERE WHAT IT READS IS OF BULK AT MOST 1048576: true; the input reads as it did. -/
def slogBytesUptoRow : OpenClaim := { program := "ytlbglcmajbhflaa", sum := "5f8aefb6083f49603a32f745674c09da65d9cad5d54f4a99ee812b9683463d71", func := "aquifer/aquiferlaw08.SlogBytes", spec := "slogBytes", unfollowed := true, recurses := true, apart := false, narrowed := true }
def SlogBytesUptoSaid : Prop := slogBytesUptoRow.holds Try.pinned (OpenSpec.upto slogBytesSpec)

/-- 'aquiferlaw08.SlogLeads', WHERE WHAT IT READS IS OF BULK AT MOST 1048576: true; the input reads as it did. -/
def slogLeadsUptoRow : OpenClaim := { program := "ytlbglcmajbhflaa", sum := "5f8aefb6083f49603a32f745674c09da65d9cad5d54f4a99ee812b9683463d71", func := "aquifer/aquiferlaw08.SlogLeads", spec := "slogLeads", unfollowed := true, recurses := true, apart := false, narrowed := true }
def SlogLeadsUptoSaid : Prop := slogLeadsUptoRow.holds Try.pinned (OpenSpec.upto slogLeadsSpec)

/-- 'aquiferlaw08.SlogParts', WHERE WHAT IT READS IS OF BULK AT MOST 1048576: true; the input reads as it did. -/
def slogPartsUptoRow : OpenClaim := { program := "ytlbglcmajbhflaa", sum := "5f8aefb6083f49603a32f745674c09da65d9cad5d54f4a99ee812b9683463d71", func := "aquifer/aquiferlaw08.SlogParts", spec := "slogParts", unfollowed := true, recurses := true, apart := false, narrowed := true }
def SlogPartsUptoSaid : Prop := slogPartsUptoRow.holds Try.pinned (OpenSpec.upto slogPartsSpec)

/-- 'aquiferlaw08.SlogBack', WHERE WHAT IT READS IS OF BULK AT MOST 1048576: true; the input reads as it did. -/
def slogBackUptoRow : OpenClaim := { program := "ytlbglcmajbhflaa", sum := "5f8aefb6083f49603a32f745674c09da65d9cad5d54f4a99ee812b9683463d71", func := "aquifer/aquiferlaw08.SlogBack", spec := "slogBack", unfollowed := true, recurses := true, apart := false, narrowed := true }
def SlogBackUptoSaid : Prop := slogBackUptoRow.holds Try.pinned (OpenSpec.upto slogBackSpec)

end Rows
end Go.Proofs.Ytlbglcmajbhflaa
