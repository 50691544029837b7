/-
  No cell of these rows narrows 'for every input' (looked for: loops, veiled, ifaces, maps, wideKeys, modest, calm, conditions, laid).
  DERIVED. THE GIVEN ROWS OF THIS SEAT. 8 by the template 'for every input the law returns true; each argument reads behind the call as it read before'; 0 by the template 'total and deterministic' (their statements: YtgakobolhmdnnaaTotals.lean).
  GIVEN WITH THE SEED: the statements are not yours to turn. If you find one false, say at which input.
  Laid BY PROGRAM, IN A SANDBOX (cutbox-rows.mjs): the forced cells as the released guide's own fill.sh prints them over the translation 23fbbf5b92ae5b62… (all of the seat's roots in one cut). By AI agents, Wed Nov 11 2026. No macro, syntax, notation, axiom, sorry.
-/
import Derived.Test.YtgakobolhmdnnaaChecked
import GoSem.Claim
import GoSem.ClaimJoined
import GoSem.ClaimMapViews
import Derived.JoinedTies
import Derived.KernelRfl
namespace Go.Proofs.Ytgakobolhmdnnaa
/- THE CELL 'sum', in the pinned program and in every row, IS THE sha256 OF THE DUMP (.gsa) THAT YtgakobolhmdnnaaProg.lean LOADS. Nothing in Lean hashes anything: it is a label: what it is worth is what the hold of that sum in a sandbox is worth. -/
noncomputable def Try.pinned : Pinned := { name := "ytgakobolhmdnnaa", sum := "23fbbf5b92ae5b622913673b7db9dfc023b59327ca55f8c2950f9ddac2eba0cd", checked := Try.checked }
namespace Rows
def none {H : Type} : Left H := { results := [], args := [] }

/-- 'siskinlaw15.JobChecks': WHATEVER THE INPUT: true; the input reads as it did. -/
def jobChecksSpec : ChangeSpec := { name := "jobChecks", fn := fun _ => fun
  | [d1, d2] => { results := [.lit (.bool true)], args := [d1, d2] }
  | _ => none }
def jobChecksRow : OpenClaim := { program := "ytgakobolhmdnnaa", sum := "23fbbf5b92ae5b622913673b7db9dfc023b59327ca55f8c2950f9ddac2eba0cd", func := "siskin/siskinlaw15.JobChecks", spec := "jobChecks", unfollowed := true, recurses := true, apart := false }
def JobChecksSaid : Prop := jobChecksRow.holds Try.pinned (OpenSpec.ofChange jobChecksSpec)

/-- ITS FALSE NEIGHBOUR: 'it returns false'. Refute it at one input. -/
def jobChecksWrong : ChangeSpec := { name := "jobChecks", fn := fun _ => fun
  | [d1, d2] => { results := [.lit (.bool false)], args := [d1, d2] }
  | _ => none }
def JobChecksWrongFalsely : Prop := jobChecksRow.holds Try.pinned (OpenSpec.ofChange jobChecksWrong)

/-- 'siskinlaw15.JobBytes': WHATEVER THE INPUT: true; the input reads as it did. -/
def jobBytesSpec : ChangeSpec := { name := "jobBytes", fn := fun _ => fun
  | [d1, d2, d3] => { results := [.lit (.bool true)], args := [d1, d2, d3] }
  | _ => none }
def jobBytesRow : OpenClaim := { program := "ytgakobolhmdnnaa", sum := "23fbbf5b92ae5b622913673b7db9dfc023b59327ca55f8c2950f9ddac2eba0cd", func := "siskin/siskinlaw15.JobBytes", spec := "jobBytes", unfollowed := true, recurses := true, apart := false }
def JobBytesSaid : Prop := jobBytesRow.holds Try.pinned (OpenSpec.ofChange jobBytesSpec)

/-- ITS FALSE NEIGHBOUR: 'it returns false'. Refute it at one input. -/
def jobBytesWrong : ChangeSpec := { name := "jobBytes", fn := fun _ => fun
  | [d1, d2, d3] => { results := [.lit (.bool false)], args := [d1, d2, d3] }
  | _ => none }
def JobBytesWrongFalsely : Prop := jobBytesRow.holds Try.pinned (OpenSpec.ofChange jobBytesWrong)

/-- 'siskinlaw15.JobBack': WHATEVER THE INPUT: true; the input reads as it did. -/
def jobBackSpec : ChangeSpec := { name := "jobBack", fn := fun _ => fun
  | [d1, d2, d3] => { results := [.lit (.bool true)], args := [d1, d2, d3] }
  | _ => none }
def jobBackRow : OpenClaim := { program := "ytgakobolhmdnnaa", sum := "23fbbf5b92ae5b622913673b7db9dfc023b59327ca55f8c2950f9ddac2eba0cd", func := "siskin/siskinlaw15.JobBack", spec := "jobBack", unfollowed := true, recurses := true, apart := false }
def JobBackSaid : Prop := jobBackRow.holds Try.pinned (OpenSpec.ofChange jobBackSpec)

/-- ITS FALSE NEIGHBOUR: 'it returns false'. Refute it at one input. -/
def jobBackWrong : ChangeSpec := { name := "jobBack", fn := fun _ => fun
  | [d1, d2, d3] => { results := [.lit (.bool false)], args := [d1, d2, d3] }
  | _ => none }
def JobBackWrongFalsely : Prop := jobBackRow.holds Try.pinned (OpenSpec.ofChange jobBackWrong)

/-- 'siskinlaw33.ProbeDistinct': WHATEVER THE INPUT: true; the input reads as it did. -/
def probeDistinctSpec : ChangeSpec := { name := "probeDistinct", fn := fun _ => fun
  | [d1, d2, d3] => { results := [.lit (.bool true)], args := [d1, d2, d3] }
  | _ => none }
def probeDistinctRow : OpenClaim := { program := "ytgakobolhmdnnaa", sum := "23fbbf5b92ae5b622913673b7db9dfc023b59327ca55f8c2950f9ddac2eba0cd", func := "siskin/siskinlaw33.ProbeDistinct", spec := "probeDistinct", unfollowed := true, recurses := true, apart := false }
def ProbeDistinctSaid : Prop := probeDistinctRow.holds Try.pinned (OpenSpec.ofChange probeDistinctSpec)

/-- ITS FALSE NEIGHBOUR: 'it returns false'. Refute it at one input. -/
def probeDistinctWrong : ChangeSpec := { name := "probeDistinct", fn := fun _ => fun
  | [d1, d2, d3] => { results := [.lit (.bool false)], args := [d1, d2, d3] }
  | _ => none }
def ProbeDistinctWrongFalsely : Prop := probeDistinctRow.holds Try.pinned (OpenSpec.ofChange probeDistinctWrong)

/-- 'siskinlaw34.HandPicks': WHATEVER THE INPUT: true; the input reads as it did. -/
def handPicksSpec : ChangeSpec := { name := "handPicks", fn := fun _ => fun
  | [d1, d2, d3] => { results := [.lit (.bool true)], args := [d1, d2, d3] }
  | _ => none }
def handPicksRow : OpenClaim := { program := "ytgakobolhmdnnaa", sum := "23fbbf5b92ae5b622913673b7db9dfc023b59327ca55f8c2950f9ddac2eba0cd", func := "siskin/siskinlaw34.HandPicks", spec := "handPicks", unfollowed := true, recurses := true, apart := false }
def HandPicksSaid : Prop := handPicksRow.holds Try.pinned (OpenSpec.ofChange handPicksSpec)

/-- ITS FALSE NEIGHBOUR: 'it returns false'. Refute it at one input. -/
def handPicksWrong : ChangeSpec := { name := "handPicks", fn := fun _ => fun
  | [d1, d2, d3] => { results := [.lit (.bool false)], args := [d1, d2, d3] }
  | _ => none }
def HandPicksWrongFalsely : Prop := handPicksRow.holds Try.pinned (OpenSpec.ofChange handPicksWrong)

/-- 'siskinlaw34.HandFits': WHATEVER THE INPUT: true; the input reads as it did. -/
def handFitsSpec : ChangeSpec := { name := "handFits", fn := fun _ => fun
  | [d1, d2, d3] => { results := [.lit (.bool true)], args := [d1, d2, d3] }
  | _ => none }
def handFitsRow : OpenClaim := { program := "ytgakobolhmdnnaa", sum := "23fbbf5b92ae5b622913673b7db9dfc023b59327ca55f8c2950f9ddac2eba0cd", func := "siskin/siskinlaw34.HandFits", spec := "handFits", unfollowed := true, recurses := true, apart := false }
def HandFitsSaid : Prop := handFitsRow.holds Try.pinned (OpenSpec.ofChange handFitsSpec)

/-- ITS FALSE NEIGHBOUR: 'it returns false'. Refute it at one input. -/
def handFitsWrong : ChangeSpec := { name := "handFits", fn := fun _ => fun
  | [d1, d2, d3] => { results := [.lit (.bool false)], args := [d1, d2, d3] }
  | _ => none }
def HandFitsWrongFalsely : Prop := handFitsRow.holds Try.pinned (OpenSpec.ofChange handFitsWrong)

/-- 'siskinlaw34.HandTells': WHATEVER THE INPUT: true; the input reads as it did. -/
def handTellsSpec : ChangeSpec := { name := "handTells", fn := fun _ => fun
  | [d1, d2] => { results := [.lit (.bool true)], args := [d1, d2] }
  | _ => none }
def handTellsRow : OpenClaim := { program := "ytgakobolhmdnnaa", sum := "23fbbf5b92ae5b622913673b7db9dfc023b59327ca55f8c2950f9ddac2eba0cd", func := "siskin/siskinlaw34.HandTells", spec := "handTells", unfollowed := true, recurses := true, apart := false }
def HandTellsSaid : Prop := handTellsRow.holds Try.pinned (OpenSpec.ofChange handTellsSpec)

/-- ITS FALSE NEIGHBOUR: 'it returns false'. Refute it at one input. -/
def handTellsWrong : ChangeSpec := { name := "handTells", fn := fun _ => fun
  | [d1, d2] => { results := [.lit (.bool false)], args := [d1, d2] }
  | _ => none }
def HandTellsWrongFalsely : Prop := handTellsRow.holds Try.pinned (OpenSpec.ofChange handTellsWrong)

/-- 'siskinlaw40.SpecAccepts': WHATEVER THE INPUT: true; the input reads as it did. -/
def specAcceptsSpec : ChangeSpec := { name := "specAccepts", fn := fun _ => fun
  | [d1, d2, d3] => { results := [.lit (.bool true)], args := [d1, d2, d3] }
  | _ => none }
def specAcceptsRow : OpenClaim := { program := "ytgakobolhmdnnaa", sum := "23fbbf5b92ae5b622913673b7db9dfc023b59327ca55f8c2950f9ddac2eba0cd", func := "siskin/siskinlaw40.SpecAccepts", spec := "specAccepts", unfollowed := true, recurses := true, apart := false }
def SpecAcceptsSaid : Prop := specAcceptsRow.holds Try.pinned (OpenSpec.ofChange specAcceptsSpec)

/-- ITS FALSE NEIGHBOUR: 'it returns false'. Refute it at one input. -/
def specAcceptsWrong : ChangeSpec := { name := "specAccepts", fn := fun _ => fun
  | [d1, d2, d3] => { results := [.lit (.bool false)], args := [d1, d2, d3] }
  | _ => none }
def SpecAcceptsWrongFalsely : Prop := specAcceptsRow.holds Try.pinned (OpenSpec.ofChange specAcceptsWrong)

/- THE SECOND FORM. 'bulk': how many values and letters a reading holds, each counted each time it is reached (what is shared counts as often as it is met; a slice's spare places count too). A statement '..UptoSaid' is the law's where the arguments, and the package variables that the reading takes, are together of bulk at most 1048576: NARROWER than '..Said'. Prove '..Said' where nothing that the law and all that it calls make is longer than what came in: it says more and counts as full. Else prove '..UptoSaid'. A law counts once. -/
mutual
def uptoBulk {H : Type} : DataW H → Nat
  | .lit (.string bytes) => bytes.length + 1
  | .lit _ => 1
  | .nil => 1
  | .ptr d => uptoBulk d + 1
  | .slice elems spare => uptoBulkAll elems + uptoBulkAll spare + 1
  | .agg parts => uptoBulkAll parts + 1
  | .iface _ d => uptoBulk d + 1
  | .map entries => uptoBulkEntries entries + 1
  | .held _ => 1
def uptoBulkAll {H : Type} : List (DataW H) → Nat
  | [] => 0
  | d :: r => uptoBulk d + uptoBulkAll r
def uptoBulkEntries {H : Type} : List (Lit × DataW H) → Nat
  | [] => 0
  | x :: r => uptoBulkEntry x + uptoBulkEntries r
def uptoBulkEntry {H : Type} : Lit × DataW H → Nat
  | (.string bytes, d) => bytes.length + uptoBulk d + 1
  | (_, d) => uptoBulk d + 1
 end
def uptoSmall : (H : Type) → List (DataW H) → Bool := fun _ ds => decide (uptoBulkAll ds ≤ 1048576)
def OpenSpec.upto (s : _root_.Go.ChangeSpec) : _root_.Go.OpenSpec := { _root_.Go.OpenSpec.ofChange s with cond := some uptoSmall }

/-- 'siskinlaw15.JobChecks', WHERE WHAT IT READS IS OF BULK AT MOST 1048576: true; the input reads as it did. -/
def jobChecksUptoRow : OpenClaim := { program := "ytgakobolhmdnnaa", sum := "23fbbf5b92ae5b622913673b7db9dfc023b59327ca55f8c2950f9ddac2eba0cd", func := "siskin/siskinlaw15.JobChecks", spec := "jobChecks", unfollowed := true, recurses := true, apart := false, narrowed := true }
def JobChecksUptoSaid : Prop := jobChecksUptoRow.holds Try.pinned (OpenSpec.upto jobChecksSpec)

/-- 'siskinlaw15.JobBytes', WHERE WHAT IT READS IS OF BULK AT MOST 1048576: true; the input reads as it did. -/
def jobBytesUptoRow : OpenClaim := { program := "ytgakobolhmdnnaa", sum := "23fbbf5b92ae5b622913673b7db9dfc023b59327ca55f8c2950f9ddac2eba0cd", func := "siskin/siskinlaw15.JobBytes", spec := "jobBytes", unfollowed := true, recurses := true, apart := false, narrowed := true }
def JobBytesUptoSaid : Prop := jobBytesUptoRow.holds Try.pinned (OpenSpec.upto jobBytesSpec)

/-- 'siskinlaw15.JobBack', WHERE WHAT IT READS IS OF BULK AT MOST 1048576: true; the input reads as it did. -/
def jobBackUptoRow : OpenClaim := { program := "ytgakobolhmdnnaa", sum := "23fbbf5b92ae5b622913673b7db9dfc023b59327ca55f8c2950f9ddac2eba0cd", func := "siskin/siskinlaw15.JobBack", spec := "jobBack", unfollowed := true, recurses := true, apart := false, narrowed := true }
def JobBackUptoSaid : Prop := jobBackUptoRow.holds Try.pinned (OpenSpec.upto jobBackSpec)

/-- 'siskinlaw33.ProbeDistinct', WHERE WHAT IT READS IS OF BULK AT MOST 1048576: true; the input reads as it did. -/
def probeDistinctUptoRow : OpenClaim := { program := "ytgakobolhmdnnaa", sum := "23fbbf5b92ae5b622913673b7db9dfc023b59327ca55f8c2950f9ddac2eba0cd", func := "siskin/siskinlaw33.ProbeDistinct", spec := "probeDistinct", unfollowed := true, recurses := true, apart := false, narrowed := true }
def ProbeDistinctUptoSaid : Prop := probeDistinctUptoRow.holds Try.pinned (OpenSpec.upto probeDistinctSpec)

/-- 'siskinlaw34.HandPicks', WHERE WHAT IT READS IS OF BULK AT MOST 1048576: true; the input reads as it did. -/
def handPicksUptoRow : OpenClaim := { program := "ytgakobolhmdnnaa", sum := "23fbbf5b92ae5b622913673b7db9dfc023b59327ca55f8c2950f9ddac2eba0cd", func := "siskin/siskinlaw34.HandPicks", spec := "handPicks", unfollowed := true, recurses := true, apart := false, narrowed := true }
def HandPicksUptoSaid : Prop := handPicksUptoRow.holds Try.pinned (OpenSpec.upto handPicksSpec)

/-- 'siskinlaw34.HandFits', WHERE WHAT IT READS IS OF BULK AT MOST 1048576: true; the input reads as it did. -/
def handFitsUptoRow : OpenClaim := { program := "ytgakobolhmdnnaa", sum := "23fbbf5b92ae5b622913673b7db9dfc023b59327ca55f8c2950f9ddac2eba0cd", func := "siskin/siskinlaw34.HandFits", spec := "handFits", unfollowed := true, recurses := true, apart := false, narrowed := true }
def HandFitsUptoSaid : Prop := handFitsUptoRow.holds Try.pinned (OpenSpec.upto handFitsSpec)

/-- 'siskinlaw34.HandTells', WHERE WHAT IT READS IS OF BULK AT MOST 1048576: true; the input reads as it did. -/
def handTellsUptoRow : OpenClaim := { program := "ytgakobolhmdnnaa", sum := "23fbbf5b92ae5b622913673b7db9dfc023b59327ca55f8c2950f9ddac2eba0cd", func := "siskin/siskinlaw34.HandTells", spec := "handTells", unfollowed := true, recurses := true, apart := false, narrowed := true }
def HandTellsUptoSaid : Prop := handTellsUptoRow.holds Try.pinned (OpenSpec.upto handTellsSpec)

/-- 'siskinlaw40.SpecAccepts', WHERE WHAT IT READS IS OF BULK AT MOST 1048576: true; the input reads as it did. -/
def specAcceptsUptoRow : OpenClaim := { program := "ytgakobolhmdnnaa", sum := "23fbbf5b92ae5b622913673b7db9dfc023b59327ca55f8c2950f9ddac2eba0cd", func := "siskin/siskinlaw40.SpecAccepts", spec := "specAccepts", unfollowed := true, recurses := true, apart := false, narrowed := true }
def SpecAcceptsUptoSaid : Prop := specAcceptsUptoRow.holds Try.pinned (OpenSpec.upto specAcceptsSpec)

end Rows
end Go.Proofs.Ytgakobolhmdnnaa
