/-
  No cell of these rows narrows 'for every input' (looked for: loops, veiled, ifaces, maps, wideKeys, modest, calm, conditions, laid).
  DERIVED. THE GIVEN ROWS OF THIS SEAT. 11 by the template 'for every input the law returns true; each argument reads behind the call as it read before'; 0 by the template 'total and deterministic' (their statements: YtaeonkggilgjpabTotals.lean).
  GIVEN WITH THE SEED: the statements are not yours to turn. If you find one false, say at which input.
  Laid BY PROGRAM, IN A SANDBOX (cutbox-rows.mjs): the forced cells as the released guide's own fill.sh prints them over the translation 39fbb279a5512ae4… (all of the seat's roots in one cut). By AI agents, Wed Nov 11 2026. No macro, syntax, notation, axiom, sorry.
-/
import Derived.Test.YtaeonkggilgjpabChecked
import GoSem.Claim
import GoSem.ClaimJoined
import GoSem.ClaimMapViews
import Derived.JoinedTies
import Derived.KernelRfl
namespace Go.Proofs.Ytaeonkggilgjpab
/- THE CELL 'sum', in the pinned program and in every row, IS THE sha256 OF THE DUMP (.gsa) THAT YtaeonkggilgjpabProg.lean LOADS. Nothing in Lean hashes anything: it is a label: what it is worth is what the hold of that sum in a sandbox is worth. -/
noncomputable def Try.pinned : Pinned := { name := "ytaeonkggilgjpab", sum := "39fbb279a5512ae43b070c4a547b9b3c1ade796a227f5bc0e1e501bd86df6c92", checked := Try.checked }
namespace Rows
def none {H : Type} : Left H := { results := [], args := [] }

/-- 'siskinlaw25.SeenTakes': WHATEVER THE INPUT: true; the input reads as it did. -/
def seenTakesSpec : ChangeSpec := { name := "seenTakes", fn := fun _ => fun
  | [d1, d2] => { results := [.lit (.bool true)], args := [d1, d2] }
  | _ => none }
def seenTakesRow : OpenClaim := { program := "ytaeonkggilgjpab", sum := "39fbb279a5512ae43b070c4a547b9b3c1ade796a227f5bc0e1e501bd86df6c92", func := "siskin/siskinlaw25.SeenTakes", spec := "seenTakes", apart := false }
def SeenTakesSaid : Prop := seenTakesRow.holds Try.pinned (OpenSpec.ofChange seenTakesSpec)

/-- ITS FALSE NEIGHBOUR: 'it returns false'. Refute it at one input. -/
def seenTakesWrong : ChangeSpec := { name := "seenTakes", fn := fun _ => fun
  | [d1, d2] => { results := [.lit (.bool false)], args := [d1, d2] }
  | _ => none }
def SeenTakesWrongFalsely : Prop := seenTakesRow.holds Try.pinned (OpenSpec.ofChange seenTakesWrong)

/-- 'siskinlaw25.SeenOnce': WHATEVER THE INPUT: true; the input reads as it did. -/
def seenOnceSpec : ChangeSpec := { name := "seenOnce", fn := fun _ => fun
  | [d1, d2] => { results := [.lit (.bool true)], args := [d1, d2] }
  | _ => none }
def seenOnceRow : OpenClaim := { program := "ytaeonkggilgjpab", sum := "39fbb279a5512ae43b070c4a547b9b3c1ade796a227f5bc0e1e501bd86df6c92", func := "siskin/siskinlaw25.SeenOnce", spec := "seenOnce", apart := false }
def SeenOnceSaid : Prop := seenOnceRow.holds Try.pinned (OpenSpec.ofChange seenOnceSpec)

/-- ITS FALSE NEIGHBOUR: 'it returns false'. Refute it at one input. -/
def seenOnceWrong : ChangeSpec := { name := "seenOnce", fn := fun _ => fun
  | [d1, d2] => { results := [.lit (.bool false)], args := [d1, d2] }
  | _ => none }
def SeenOnceWrongFalsely : Prop := seenOnceRow.holds Try.pinned (OpenSpec.ofChange seenOnceWrong)

/-- 'siskinlaw28.NetPlays': WHATEVER THE INPUT: true; the input reads as it did. -/
def netPlaysSpec : ChangeSpec := { name := "netPlays", fn := fun _ => fun
  | [d1, d2] => { results := [.lit (.bool true)], args := [d1, d2] }
  | _ => none }
def netPlaysRow : OpenClaim := { program := "ytaeonkggilgjpab", sum := "39fbb279a5512ae43b070c4a547b9b3c1ade796a227f5bc0e1e501bd86df6c92", func := "siskin/siskinlaw28.NetPlays", spec := "netPlays", apart := false }
def NetPlaysSaid : Prop := netPlaysRow.holds Try.pinned (OpenSpec.ofChange netPlaysSpec)

/-- ITS FALSE NEIGHBOUR: 'it returns false'. Refute it at one input. -/
def netPlaysWrong : ChangeSpec := { name := "netPlays", fn := fun _ => fun
  | [d1, d2] => { results := [.lit (.bool false)], args := [d1, d2] }
  | _ => none }
def NetPlaysWrongFalsely : Prop := netPlaysRow.holds Try.pinned (OpenSpec.ofChange netPlaysWrong)

/-- 'siskinlaw28.NetOrder': WHATEVER THE INPUT: true; the input reads as it did. -/
def netOrderSpec : ChangeSpec := { name := "netOrder", fn := fun _ => fun
  | [d1, d2] => { results := [.lit (.bool true)], args := [d1, d2] }
  | _ => none }
def netOrderRow : OpenClaim := { program := "ytaeonkggilgjpab", sum := "39fbb279a5512ae43b070c4a547b9b3c1ade796a227f5bc0e1e501bd86df6c92", func := "siskin/siskinlaw28.NetOrder", spec := "netOrder", apart := false }
def NetOrderSaid : Prop := netOrderRow.holds Try.pinned (OpenSpec.ofChange netOrderSpec)

/-- ITS FALSE NEIGHBOUR: 'it returns false'. Refute it at one input. -/
def netOrderWrong : ChangeSpec := { name := "netOrder", fn := fun _ => fun
  | [d1, d2] => { results := [.lit (.bool false)], args := [d1, d2] }
  | _ => none }
def NetOrderWrongFalsely : Prop := netOrderRow.holds Try.pinned (OpenSpec.ofChange netOrderWrong)

/-- 'siskinlaw29.QueueDoes': WHATEVER THE INPUT: true; the input reads as it did. -/
def queueDoesSpec : ChangeSpec := { name := "queueDoes", fn := fun _ => fun
  | [d1, d2] => { results := [.lit (.bool true)], args := [d1, d2] }
  | _ => none }
def queueDoesRow : OpenClaim := { program := "ytaeonkggilgjpab", sum := "39fbb279a5512ae43b070c4a547b9b3c1ade796a227f5bc0e1e501bd86df6c92", func := "siskin/siskinlaw29.QueueDoes", spec := "queueDoes", unfollowed := true, recurses := true, apart := false }
def QueueDoesSaid : Prop := queueDoesRow.holds Try.pinned (OpenSpec.ofChange queueDoesSpec)

/-- ITS FALSE NEIGHBOUR: 'it returns false'. Refute it at one input. -/
def queueDoesWrong : ChangeSpec := { name := "queueDoes", fn := fun _ => fun
  | [d1, d2] => { results := [.lit (.bool false)], args := [d1, d2] }
  | _ => none }
def QueueDoesWrongFalsely : Prop := queueDoesRow.holds Try.pinned (OpenSpec.ofChange queueDoesWrong)

/-- 'siskinlaw29.QueueKeeps': WHATEVER THE INPUT: true; the input reads as it did. -/
def queueKeepsSpec : ChangeSpec := { name := "queueKeeps", fn := fun _ => fun
  | [d1, d2] => { results := [.lit (.bool true)], args := [d1, d2] }
  | _ => none }
def queueKeepsRow : OpenClaim := { program := "ytaeonkggilgjpab", sum := "39fbb279a5512ae43b070c4a547b9b3c1ade796a227f5bc0e1e501bd86df6c92", func := "siskin/siskinlaw29.QueueKeeps", spec := "queueKeeps", unfollowed := true, recurses := true, apart := false }
def QueueKeepsSaid : Prop := queueKeepsRow.holds Try.pinned (OpenSpec.ofChange queueKeepsSpec)

/-- ITS FALSE NEIGHBOUR: 'it returns false'. Refute it at one input. -/
def queueKeepsWrong : ChangeSpec := { name := "queueKeeps", fn := fun _ => fun
  | [d1, d2] => { results := [.lit (.bool false)], args := [d1, d2] }
  | _ => none }
def QueueKeepsWrongFalsely : Prop := queueKeepsRow.holds Try.pinned (OpenSpec.ofChange queueKeepsWrong)

/-- 'siskinlaw31.TableDoes': WHATEVER THE INPUT: true; the input reads as it did. -/
def tableDoesSpec : ChangeSpec := { name := "tableDoes", fn := fun _ => fun
  | [d1, d2, d3] => { results := [.lit (.bool true)], args := [d1, d2, d3] }
  | _ => none }
def tableDoesRow : OpenClaim := { program := "ytaeonkggilgjpab", sum := "39fbb279a5512ae43b070c4a547b9b3c1ade796a227f5bc0e1e501bd86df6c92", func := "siskin/siskinlaw31.TableDoes", spec := "tableDoes", inPlace := ["slices.overlaps[siskin/table.Row]"], unfollowed := true, recurses := true, apart := false }
def TableDoesSaid : Prop := tableDoesRow.holds Try.pinned (OpenSpec.ofChange tableDoesSpec)

/-- ITS FALSE NEIGHBOUR: 'it returns false'. Refute it at one input. -/
def tableDoesWrong : ChangeSpec := { name := "tableDoes", fn := fun _ => fun
  | [d1, d2, d3] => { results := [.lit (.bool false)], args := [d1, d2, d3] }
  | _ => none }
def TableDoesWrongFalsely : Prop := tableDoesRow.holds Try.pinned (OpenSpec.ofChange tableDoesWrong)

/-- 'siskinlaw31.TableOnce': WHATEVER THE INPUT: true; the input reads as it did. -/
def tableOnceSpec : ChangeSpec := { name := "tableOnce", fn := fun _ => fun
  | [d] => { results := [.lit (.bool true)], args := [d] }
  | _ => none }
def tableOnceRow : OpenClaim := { program := "ytaeonkggilgjpab", sum := "39fbb279a5512ae43b070c4a547b9b3c1ade796a227f5bc0e1e501bd86df6c92", func := "siskin/siskinlaw31.TableOnce", spec := "tableOnce", inPlace := ["slices.overlaps[siskin/table.Row]"], unfollowed := true, recurses := true, apart := false }
def TableOnceSaid : Prop := tableOnceRow.holds Try.pinned (OpenSpec.ofChange tableOnceSpec)

/-- ITS FALSE NEIGHBOUR: 'it returns false'. Refute it at one input. -/
def tableOnceWrong : ChangeSpec := { name := "tableOnce", fn := fun _ => fun
  | [d] => { results := [.lit (.bool false)], args := [d] }
  | _ => none }
def TableOnceWrongFalsely : Prop := tableOnceRow.holds Try.pinned (OpenSpec.ofChange tableOnceWrong)

/-- 'siskinlaw35.RoundDue': WHATEVER THE INPUT: true; the input reads as it did. -/
def roundDueSpec : ChangeSpec := { name := "roundDue", fn := fun _ => fun
  | [d1, d2] => { results := [.lit (.bool true)], args := [d1, d2] }
  | _ => none }
def roundDueRow : OpenClaim := { program := "ytaeonkggilgjpab", sum := "39fbb279a5512ae43b070c4a547b9b3c1ade796a227f5bc0e1e501bd86df6c92", func := "siskin/siskinlaw35.RoundDue", spec := "roundDue", apart := false }
def RoundDueSaid : Prop := roundDueRow.holds Try.pinned (OpenSpec.ofChange roundDueSpec)

/-- ITS FALSE NEIGHBOUR: 'it returns false'. Refute it at one input. -/
def roundDueWrong : ChangeSpec := { name := "roundDue", fn := fun _ => fun
  | [d1, d2] => { results := [.lit (.bool false)], args := [d1, d2] }
  | _ => none }
def RoundDueWrongFalsely : Prop := roundDueRow.holds Try.pinned (OpenSpec.ofChange roundDueWrong)

/-- 'siskinlaw37.BeatDoes': WHATEVER THE INPUT: true; the input reads as it did. -/
def beatDoesSpec : ChangeSpec := { name := "beatDoes", fn := fun _ => fun
  | [d1, d2] => { results := [.lit (.bool true)], args := [d1, d2] }
  | _ => none }
def beatDoesRow : OpenClaim := { program := "ytaeonkggilgjpab", sum := "39fbb279a5512ae43b070c4a547b9b3c1ade796a227f5bc0e1e501bd86df6c92", func := "siskin/siskinlaw37.BeatDoes", spec := "beatDoes", apart := false }
def BeatDoesSaid : Prop := beatDoesRow.holds Try.pinned (OpenSpec.ofChange beatDoesSpec)

/-- ITS FALSE NEIGHBOUR: 'it returns false'. Refute it at one input. -/
def beatDoesWrong : ChangeSpec := { name := "beatDoes", fn := fun _ => fun
  | [d1, d2] => { results := [.lit (.bool false)], args := [d1, d2] }
  | _ => none }
def BeatDoesWrongFalsely : Prop := beatDoesRow.holds Try.pinned (OpenSpec.ofChange beatDoesWrong)

/-- 'siskinlaw37.BeatLeases': WHATEVER THE INPUT: true; the input reads as it did. -/
def beatLeasesSpec : ChangeSpec := { name := "beatLeases", fn := fun _ => fun
  | [d1, d2, d3] => { results := [.lit (.bool true)], args := [d1, d2, d3] }
  | _ => none }
def beatLeasesRow : OpenClaim := { program := "ytaeonkggilgjpab", sum := "39fbb279a5512ae43b070c4a547b9b3c1ade796a227f5bc0e1e501bd86df6c92", func := "siskin/siskinlaw37.BeatLeases", spec := "beatLeases", apart := false }
def BeatLeasesSaid : Prop := beatLeasesRow.holds Try.pinned (OpenSpec.ofChange beatLeasesSpec)

/-- ITS FALSE NEIGHBOUR: 'it returns false'. Refute it at one input. -/
def beatLeasesWrong : ChangeSpec := { name := "beatLeases", fn := fun _ => fun
  | [d1, d2, d3] => { results := [.lit (.bool false)], args := [d1, d2, d3] }
  | _ => none }
def BeatLeasesWrongFalsely : Prop := beatLeasesRow.holds Try.pinned (OpenSpec.ofChange beatLeasesWrong)

/- THE SECOND FORM. 'bulk': how many values and letters a reading holds, each counted each time it is reached (what is shared counts as often as it is met; a slice's spare places count too). A statement '..UptoSaid' is the law's where the arguments, and the package variables that the reading takes, are together of bulk at most 1048576: NARROWER than '..Said'. Prove '..Said' where nothing that the law and all that it calls make is longer than what came in: it says more and counts as full. Else prove '..UptoSaid'. A law counts once. -/
mutual
def uptoBulk {H : Type} : DataW H → Nat
  | .lit (.string bytes) => bytes.length + 1
  | .lit _ => 1
  | .nil => 1
  | .ptr d => uptoBulk d + 1
  | .slice elems spare => uptoBulkAll elems + uptoBulkAll spare + 1
  | .agg parts => uptoBulkAll parts + 1
  | .iface _ d => uptoBulk d + 1
  | .map entries => uptoBulkEntries entries + 1
  | .held _ => 1
def uptoBulkAll {H : Type} : List (DataW H) → Nat
  | [] => 0
  | d :: r => uptoBulk d + uptoBulkAll r
def uptoBulkEntries {H : Type} : List (Lit × DataW H) → Nat
  | [] => 0
  | x :: r => uptoBulkEntry x + uptoBulkEntries r
def uptoBulkEntry {H : Type} : Lit × DataW H → Nat
  | (.string bytes, d) => bytes.length + uptoBulk d + 1
  | (_, d) => uptoBulk d + 1
 end
def uptoSmall : (H : Type) → List (DataW H) → Bool := fun _ ds => decide (uptoBulkAll ds ≤ 1048576)
def OpenSpec.upto (s : _root_.Go.ChangeSpec) : _root_.Go.OpenSpec := { _root_.Go.OpenSpec.ofChange s with cond := some uptoSmall }

/-- 'siskinlaw25.SeenTakes', WHERE WHAT IT READS IS OF BULK AT MOST 1048576: true; the input reads as it did. -/
def seenTakesUptoRow : OpenClaim := { program := "ytaeonkggilgjpab", sum := "39fbb279a5512ae43b070c4a547b9b3c1ade796a227f5bc0e1e501bd86df6c92", func := "siskin/siskinlaw25.SeenTakes", spec := "seenTakes", apart := false, narrowed := true }
def SeenTakesUptoSaid : Prop := seenTakesUptoRow.holds Try.pinned (OpenSpec.upto seenTakesSpec)

/-- 'siskinlaw25.SeenOnce', WHERE WHAT IT READS IS OF BULK AT MOST 1048576: true; the input reads as it did. -/
def seenOnceUptoRow : OpenClaim := { program := "ytaeonkggilgjpab", sum := "39fbb279a5512ae43b070c4a547b9b3c1ade796a227f5bc0e1e501bd86df6c92", func := "siskin/siskinlaw25.SeenOnce", spec := "seenOnce", apart := false, narrowed := true }
def SeenOnceUptoSaid : Prop := seenOnceUptoRow.holds Try.pinned (OpenSpec.upto seenOnceSpec)

/-- 'siskinlaw28.NetPlays', WHERE WHAT IT READS IS OF BULK AT MOST 1048576: true; the input reads as it did. -/
def netPlaysUptoRow : OpenClaim := { program := "ytaeonkggilgjpab", sum := "39fbb279a5512ae43b070c4a547b9b3c1ade796a227f5bc0e1e501bd86df6c92", func := "siskin/siskinlaw28.NetPlays", spec := "netPlays", apart := false, narrowed := true }
def NetPlaysUptoSaid : Prop := netPlaysUptoRow.holds Try.pinned (OpenSpec.upto netPlaysSpec)

/-- 'siskinlaw28.NetOrder', WHERE WHAT IT READS IS OF BULK AT MOST 1048576: true; the input reads as it did. -/
def netOrderUptoRow : OpenClaim := { program := "ytaeonkggilgjpab", sum := "39fbb279a5512ae43b070c4a547b9b3c1ade796a227f5bc0e1e501bd86df6c92", func := "siskin/siskinlaw28.NetOrder", spec := "netOrder", apart := false, narrowed := true }
def NetOrderUptoSaid : Prop := netOrderUptoRow.holds Try.pinned (OpenSpec.upto netOrderSpec)

/-- 'siskinlaw29.QueueDoes', WHERE WHAT IT READS IS OF BULK AT MOST 1048576: true; the input reads as it did. -/
def queueDoesUptoRow : OpenClaim := { program := "ytaeonkggilgjpab", sum := "39fbb279a5512ae43b070c4a547b9b3c1ade796a227f5bc0e1e501bd86df6c92", func := "siskin/siskinlaw29.QueueDoes", spec := "queueDoes", unfollowed := true, recurses := true, apart := false, narrowed := true }
def QueueDoesUptoSaid : Prop := queueDoesUptoRow.holds Try.pinned (OpenSpec.upto queueDoesSpec)

/-- 'siskinlaw29.QueueKeeps', WHERE WHAT IT READS IS OF BULK AT MOST 1048576: true; the input reads as it did. -/
def queueKeepsUptoRow : OpenClaim := { program := "ytaeonkggilgjpab", sum := "39fbb279a5512ae43b070c4a547b9b3c1ade796a227f5bc0e1e501bd86df6c92", func := "siskin/siskinlaw29.QueueKeeps", spec := "queueKeeps", unfollowed := true, recurses := true, apart := false, narrowed := true }
def QueueKeepsUptoSaid : Prop := queueKeepsUptoRow.holds Try.pinned (OpenSpec.upto queueKeepsSpec)

/-- 'siskinlaw31.TableDoes', WHERE WHAT IT READS IS OF BULK AT MOST 1048576: true; the input reads as it did. -/
def tableDoesUptoRow : OpenClaim := { program := "ytaeonkggilgjpab", sum := "39fbb279a5512ae43b070c4a547b9b3c1ade796a227f5bc0e1e501bd86df6c92", func := "siskin/siskinlaw31.TableDoes", spec := "tableDoes", inPlace := ["slices.overlaps[siskin/table.Row]"], unfollowed := true, recurses := true, apart := false, narrowed := true }
def TableDoesUptoSaid : Prop := tableDoesUptoRow.holds Try.pinned (OpenSpec.upto tableDoesSpec)

/-- 'siskinlaw31.TableOnce', WHERE WHAT IT READS IS OF BULK AT MOST 1048576: true; the input reads as it did. -/
def tableOnceUptoRow : OpenClaim := { program := "ytaeonkggilgjpab", sum := "39fbb279a5512ae43b070c4a547b9b3c1ade796a227f5bc0e1e501bd86df6c92", func := "siskin/siskinlaw31.TableOnce", spec := "tableOnce", inPlace := ["slices.overlaps[siskin/table.Row]"], unfollowed := true, recurses := true, apart := false, narrowed := true }
def TableOnceUptoSaid : Prop := tableOnceUptoRow.holds Try.pinned (OpenSpec.upto tableOnceSpec)

/-- 'siskinlaw35.RoundDue', WHERE WHAT IT READS IS OF BULK AT MOST 1048576: true; the input reads as it did. -/
def roundDueUptoRow : OpenClaim := { program := "ytaeonkggilgjpab", sum := "39fbb279a5512ae43b070c4a547b9b3c1ade796a227f5bc0e1e501bd86df6c92", func := "siskin/siskinlaw35.RoundDue", spec := "roundDue", apart := false, narrowed := true }
def RoundDueUptoSaid : Prop := roundDueUptoRow.holds Try.pinned (OpenSpec.upto roundDueSpec)

/-- 'siskinlaw37.BeatDoes', WHERE WHAT IT READS IS OF BULK AT MOST 1048576: true; the input reads as it did. -/
def beatDoesUptoRow : OpenClaim := { program := "ytaeonkggilgjpab", sum := "39fbb279a5512ae43b070c4a547b9b3c1ade796a227f5bc0e1e501bd86df6c92", func := "siskin/siskinlaw37.BeatDoes", spec := "beatDoes", apart := false, narrowed := true }
def BeatDoesUptoSaid : Prop := beatDoesUptoRow.holds Try.pinned (OpenSpec.upto beatDoesSpec)

/-- 'siskinlaw37.BeatLeases', WHERE WHAT IT READS IS OF BULK AT MOST 1048576: true; the input reads as it did. -/
def beatLeasesUptoRow : OpenClaim := { program := "ytaeonkggilgjpab", sum := "39fbb279a5512ae43b070c4a547b9b3c1ade796a227f5bc0e1e501bd86df6c92", func := "siskin/siskinlaw37.BeatLeases", spec := "beatLeases", apart := false, narrowed := true }
def BeatLeasesUptoSaid : Prop := beatLeasesUptoRow.holds Try.pinned (OpenSpec.upto beatLeasesSpec)

end Rows
end Go.Proofs.Ytaeonkggilgjpab
