/-
  No cell of these rows narrows 'for every input' (looked for: loops, veiled, ifaces, maps, wideKeys, modest, calm, conditions, laid).
  DERIVED. THE GIVEN ROWS OF THIS SEAT. 12 by the template 'for every input the law returns true; each argument reads behind the call as it read before'; 0 by the template 'total and deterministic' (their statements: YtadjmgmdnekllaaTotals.lean).
  GIVEN WITH THE SEED: the statements are not yours to turn. If you find one false, say at which input.
  Laid BY PROGRAM, IN A SANDBOX (cutbox-rows.mjs): the forced cells as the released guide's own fill.sh prints them over the translation e8a23e519da128cc… (all of the seat's roots in one cut). By AI agents, Wed Nov 11 2026. No macro, syntax, notation, axiom, sorry.
-/
import Derived.Test.YtadjmgmdnekllaaChecked
import GoSem.Claim
import GoSem.ClaimJoined
import GoSem.ClaimMapViews
import Derived.JoinedTies
import Derived.KernelRfl
namespace Go.Proofs.Ytadjmgmdnekllaa
/- THE CELL 'sum', in the pinned program and in every row, IS THE sha256 OF THE DUMP (.gsa) THAT YtadjmgmdnekllaaProg.lean LOADS. Nothing in Lean hashes anything: it is a label: what it is worth is what the hold of that sum in a sandbox is worth. -/
noncomputable def Try.pinned : Pinned := { name := "ytadjmgmdnekllaa", sum := "e8a23e519da128cc372f9f95588b8b9679e859fbe2126180d4761d6a6f274caa", checked := Try.checked }
namespace Rows
def none {H : Type} : Left H := { results := [], args := [] }

/-- 'siskinlaw06.FlockSets': WHATEVER THE INPUT: true; the input reads as it did. -/
def flockSetsSpec : ChangeSpec := { name := "flockSets", fn := fun _ => fun
  | [d1, d2, d3] => { results := [.lit (.bool true)], args := [d1, d2, d3] }
  | _ => none }
def flockSetsRow : OpenClaim := { program := "ytadjmgmdnekllaa", sum := "e8a23e519da128cc372f9f95588b8b9679e859fbe2126180d4761d6a6f274caa", func := "siskin/siskinlaw06.FlockSets", spec := "flockSets", unfollowed := true, recurses := true, apart := false }
def FlockSetsSaid : Prop := flockSetsRow.holds Try.pinned (OpenSpec.ofChange flockSetsSpec)

/-- ITS FALSE NEIGHBOUR: 'it returns false'. Refute it at one input. -/
def flockSetsWrong : ChangeSpec := { name := "flockSets", fn := fun _ => fun
  | [d1, d2, d3] => { results := [.lit (.bool false)], args := [d1, d2, d3] }
  | _ => none }
def FlockSetsWrongFalsely : Prop := flockSetsRow.holds Try.pinned (OpenSpec.ofChange flockSetsWrong)

/-- 'siskinlaw06.FlockLists': WHATEVER THE INPUT: true; the input reads as it did. -/
def flockListsSpec : ChangeSpec := { name := "flockLists", fn := fun _ => fun
  | [d1, d2] => { results := [.lit (.bool true)], args := [d1, d2] }
  | _ => none }
def flockListsRow : OpenClaim := { program := "ytadjmgmdnekllaa", sum := "e8a23e519da128cc372f9f95588b8b9679e859fbe2126180d4761d6a6f274caa", func := "siskin/siskinlaw06.FlockLists", spec := "flockLists", unfollowed := true, recurses := true, apart := false }
def FlockListsSaid : Prop := flockListsRow.holds Try.pinned (OpenSpec.ofChange flockListsSpec)

/-- ITS FALSE NEIGHBOUR: 'it returns false'. Refute it at one input. -/
def flockListsWrong : ChangeSpec := { name := "flockLists", fn := fun _ => fun
  | [d1, d2] => { results := [.lit (.bool false)], args := [d1, d2] }
  | _ => none }
def FlockListsWrongFalsely : Prop := flockListsRow.holds Try.pinned (OpenSpec.ofChange flockListsWrong)

/-- 'siskinlaw07.DrawPlays': WHATEVER THE INPUT: true; the input reads as it did. -/
def drawPlaysSpec : ChangeSpec := { name := "drawPlays", fn := fun _ => fun
  | [d1, d2] => { results := [.lit (.bool true)], args := [d1, d2] }
  | _ => none }
def drawPlaysRow : OpenClaim := { program := "ytadjmgmdnekllaa", sum := "e8a23e519da128cc372f9f95588b8b9679e859fbe2126180d4761d6a6f274caa", func := "siskin/siskinlaw07.DrawPlays", spec := "drawPlays", unfollowed := true, recurses := true, apart := false }
def DrawPlaysSaid : Prop := drawPlaysRow.holds Try.pinned (OpenSpec.ofChange drawPlaysSpec)

/-- ITS FALSE NEIGHBOUR: 'it returns false'. Refute it at one input. -/
def drawPlaysWrong : ChangeSpec := { name := "drawPlays", fn := fun _ => fun
  | [d1, d2] => { results := [.lit (.bool false)], args := [d1, d2] }
  | _ => none }
def DrawPlaysWrongFalsely : Prop := drawPlaysRow.holds Try.pinned (OpenSpec.ofChange drawPlaysWrong)

/-- 'siskinlaw07.DrawOnce': WHATEVER THE INPUT: true; the input reads as it did. -/
def drawOnceSpec : ChangeSpec := { name := "drawOnce", fn := fun _ => fun
  | [d1, d2, d3] => { results := [.lit (.bool true)], args := [d1, d2, d3] }
  | _ => none }
def drawOnceRow : OpenClaim := { program := "ytadjmgmdnekllaa", sum := "e8a23e519da128cc372f9f95588b8b9679e859fbe2126180d4761d6a6f274caa", func := "siskin/siskinlaw07.DrawOnce", spec := "drawOnce", unfollowed := true, recurses := true, apart := false }
def DrawOnceSaid : Prop := drawOnceRow.holds Try.pinned (OpenSpec.ofChange drawOnceSpec)

/-- ITS FALSE NEIGHBOUR: 'it returns false'. Refute it at one input. -/
def drawOnceWrong : ChangeSpec := { name := "drawOnce", fn := fun _ => fun
  | [d1, d2, d3] => { results := [.lit (.bool false)], args := [d1, d2, d3] }
  | _ => none }
def DrawOnceWrongFalsely : Prop := drawOnceRow.holds Try.pinned (OpenSpec.ofChange drawOnceWrong)

/-- 'siskinlaw07.DrawAny': WHATEVER THE INPUT: true; the input reads as it did. -/
def drawAnySpec : ChangeSpec := { name := "drawAny", fn := fun _ => fun
  | [d1, d2] => { results := [.lit (.bool true)], args := [d1, d2] }
  | _ => none }
def drawAnyRow : OpenClaim := { program := "ytadjmgmdnekllaa", sum := "e8a23e519da128cc372f9f95588b8b9679e859fbe2126180d4761d6a6f274caa", func := "siskin/siskinlaw07.DrawAny", spec := "drawAny", unfollowed := true, recurses := true, apart := false }
def DrawAnySaid : Prop := drawAnyRow.holds Try.pinned (OpenSpec.ofChange drawAnySpec)

/-- ITS FALSE NEIGHBOUR: 'it returns false'. Refute it at one input. -/
def drawAnyWrong : ChangeSpec := { name := "drawAny", fn := fun _ => fun
  | [d1, d2] => { results := [.lit (.bool false)], args := [d1, d2] }
  | _ => none }
def DrawAnyWrongFalsely : Prop := drawAnyRow.holds Try.pinned (OpenSpec.ofChange drawAnyWrong)

/-- 'siskinlaw35.RoundDoes': WHATEVER THE INPUT: true; the input reads as it did. -/
def roundDoesSpec : ChangeSpec := { name := "roundDoes", fn := fun _ => fun
  | [d1, d2] => { results := [.lit (.bool true)], args := [d1, d2] }
  | _ => none }
def roundDoesRow : OpenClaim := { program := "ytadjmgmdnekllaa", sum := "e8a23e519da128cc372f9f95588b8b9679e859fbe2126180d4761d6a6f274caa", func := "siskin/siskinlaw35.RoundDoes", spec := "roundDoes", unfollowed := true, recurses := true, apart := false }
def RoundDoesSaid : Prop := roundDoesRow.holds Try.pinned (OpenSpec.ofChange roundDoesSpec)

/-- ITS FALSE NEIGHBOUR: 'it returns false'. Refute it at one input. -/
def roundDoesWrong : ChangeSpec := { name := "roundDoes", fn := fun _ => fun
  | [d1, d2] => { results := [.lit (.bool false)], args := [d1, d2] }
  | _ => none }
def RoundDoesWrongFalsely : Prop := roundDoesRow.holds Try.pinned (OpenSpec.ofChange roundDoesWrong)

/-- 'siskinlaw29.QueueDoes': WHATEVER THE INPUT: true; the input reads as it did. -/
def queueDoesSpec : ChangeSpec := { name := "queueDoes", fn := fun _ => fun
  | [d1, d2] => { results := [.lit (.bool true)], args := [d1, d2] }
  | _ => none }
def queueDoesRow : OpenClaim := { program := "ytadjmgmdnekllaa", sum := "e8a23e519da128cc372f9f95588b8b9679e859fbe2126180d4761d6a6f274caa", func := "siskin/siskinlaw29.QueueDoes", spec := "queueDoes", unfollowed := true, recurses := true, apart := false }
def QueueDoesSaid : Prop := queueDoesRow.holds Try.pinned (OpenSpec.ofChange queueDoesSpec)

/-- ITS FALSE NEIGHBOUR: 'it returns false'. Refute it at one input. -/
def queueDoesWrong : ChangeSpec := { name := "queueDoes", fn := fun _ => fun
  | [d1, d2] => { results := [.lit (.bool false)], args := [d1, d2] }
  | _ => none }
def QueueDoesWrongFalsely : Prop := queueDoesRow.holds Try.pinned (OpenSpec.ofChange queueDoesWrong)

/-- 'siskinlaw29.QueueKeeps': WHATEVER THE INPUT: true; the input reads as it did. -/
def queueKeepsSpec : ChangeSpec := { name := "queueKeeps", fn := fun _ => fun
  | [d1, d2] => { results := [.lit (.bool true)], args := [d1, d2] }
  | _ => none }
def queueKeepsRow : OpenClaim := { program := "ytadjmgmdnekllaa", sum := "e8a23e519da128cc372f9f95588b8b9679e859fbe2126180d4761d6a6f274caa", func := "siskin/siskinlaw29.QueueKeeps", spec := "queueKeeps", unfollowed := true, recurses := true, apart := false }
def QueueKeepsSaid : Prop := queueKeepsRow.holds Try.pinned (OpenSpec.ofChange queueKeepsSpec)

/-- ITS FALSE NEIGHBOUR: 'it returns false'. Refute it at one input. -/
def queueKeepsWrong : ChangeSpec := { name := "queueKeeps", fn := fun _ => fun
  | [d1, d2] => { results := [.lit (.bool false)], args := [d1, d2] }
  | _ => none }
def QueueKeepsWrongFalsely : Prop := queueKeepsRow.holds Try.pinned (OpenSpec.ofChange queueKeepsWrong)

/-- 'siskinlaw30.SlotsDoes': WHATEVER THE INPUT: true; the input reads as it did. -/
def slotsDoesSpec : ChangeSpec := { name := "slotsDoes", fn := fun _ => fun
  | [d1, d2] => { results := [.lit (.bool true)], args := [d1, d2] }
  | _ => none }
def slotsDoesRow : OpenClaim := { program := "ytadjmgmdnekllaa", sum := "e8a23e519da128cc372f9f95588b8b9679e859fbe2126180d4761d6a6f274caa", func := "siskin/siskinlaw30.SlotsDoes", spec := "slotsDoes", unfollowed := true, recurses := true, apart := false }
def SlotsDoesSaid : Prop := slotsDoesRow.holds Try.pinned (OpenSpec.ofChange slotsDoesSpec)

/-- ITS FALSE NEIGHBOUR: 'it returns false'. Refute it at one input. -/
def slotsDoesWrong : ChangeSpec := { name := "slotsDoes", fn := fun _ => fun
  | [d1, d2] => { results := [.lit (.bool false)], args := [d1, d2] }
  | _ => none }
def SlotsDoesWrongFalsely : Prop := slotsDoesRow.holds Try.pinned (OpenSpec.ofChange slotsDoesWrong)

/-- 'siskinlaw30.SlotsKeep': WHATEVER THE INPUT: true; the input reads as it did. -/
def slotsKeepSpec : ChangeSpec := { name := "slotsKeep", fn := fun _ => fun
  | [d1, d2] => { results := [.lit (.bool true)], args := [d1, d2] }
  | _ => none }
def slotsKeepRow : OpenClaim := { program := "ytadjmgmdnekllaa", sum := "e8a23e519da128cc372f9f95588b8b9679e859fbe2126180d4761d6a6f274caa", func := "siskin/siskinlaw30.SlotsKeep", spec := "slotsKeep", unfollowed := true, recurses := true, apart := false }
def SlotsKeepSaid : Prop := slotsKeepRow.holds Try.pinned (OpenSpec.ofChange slotsKeepSpec)

/-- ITS FALSE NEIGHBOUR: 'it returns false'. Refute it at one input. -/
def slotsKeepWrong : ChangeSpec := { name := "slotsKeep", fn := fun _ => fun
  | [d1, d2] => { results := [.lit (.bool false)], args := [d1, d2] }
  | _ => none }
def SlotsKeepWrongFalsely : Prop := slotsKeepRow.holds Try.pinned (OpenSpec.ofChange slotsKeepWrong)

/-- 'siskinlaw31.TableDoes': WHATEVER THE INPUT: true; the input reads as it did. -/
def tableDoesSpec : ChangeSpec := { name := "tableDoes", fn := fun _ => fun
  | [d1, d2, d3] => { results := [.lit (.bool true)], args := [d1, d2, d3] }
  | _ => none }
def tableDoesRow : OpenClaim := { program := "ytadjmgmdnekllaa", sum := "e8a23e519da128cc372f9f95588b8b9679e859fbe2126180d4761d6a6f274caa", func := "siskin/siskinlaw31.TableDoes", spec := "tableDoes", inPlace := ["slices.overlaps[siskin/table.Row]"], unfollowed := true, recurses := true, apart := false }
def TableDoesSaid : Prop := tableDoesRow.holds Try.pinned (OpenSpec.ofChange tableDoesSpec)

/-- ITS FALSE NEIGHBOUR: 'it returns false'. Refute it at one input. -/
def tableDoesWrong : ChangeSpec := { name := "tableDoes", fn := fun _ => fun
  | [d1, d2, d3] => { results := [.lit (.bool false)], args := [d1, d2, d3] }
  | _ => none }
def TableDoesWrongFalsely : Prop := tableDoesRow.holds Try.pinned (OpenSpec.ofChange tableDoesWrong)

/-- 'siskinlaw31.TableOnce': WHATEVER THE INPUT: true; the input reads as it did. -/
def tableOnceSpec : ChangeSpec := { name := "tableOnce", fn := fun _ => fun
  | [d] => { results := [.lit (.bool true)], args := [d] }
  | _ => none }
def tableOnceRow : OpenClaim := { program := "ytadjmgmdnekllaa", sum := "e8a23e519da128cc372f9f95588b8b9679e859fbe2126180d4761d6a6f274caa", func := "siskin/siskinlaw31.TableOnce", spec := "tableOnce", inPlace := ["slices.overlaps[siskin/table.Row]"], unfollowed := true, recurses := true, apart := false }
def TableOnceSaid : Prop := tableOnceRow.holds Try.pinned (OpenSpec.ofChange tableOnceSpec)

/-- ITS FALSE NEIGHBOUR: 'it returns false'. Refute it at one input. -/
def tableOnceWrong : ChangeSpec := { name := "tableOnce", fn := fun _ => fun
  | [d] => { results := [.lit (.bool false)], args := [d] }
  | _ => none }
def TableOnceWrongFalsely : Prop := tableOnceRow.holds Try.pinned (OpenSpec.ofChange tableOnceWrong)

/- THE SECOND FORM. 'bulk': how many values and letters a reading holds, each counted each time it is reached (what is shared counts as often as it is met; a slice's spare places count too). A statement '..UptoSaid' is the law's where the arguments, and the package variables that the reading takes, are together of bulk at most 1048576: NARROWER than '..Said'. Prove '..Said' where nothing that the law and all that it calls make is longer than what came in: it says more and counts as full. Else prove '..UptoSaid'. A law counts once. -/
mutual
def uptoBulk {H : Type} : DataW H → Nat
  | .lit (.string bytes) => bytes.length + 1
  | .lit _ => 1
  | .nil => 1
  | .ptr d => uptoBulk d + 1
  | .slice elems spare => uptoBulkAll elems + uptoBulkAll spare + 1
  | .agg parts => uptoBulkAll parts + 1
  | .iface _ d => uptoBulk d + 1
  | .map entries => uptoBulkEntries entries + 1
  | .held _ => 1
def uptoBulkAll {H : Type} : List (DataW H) → Nat
  | [] => 0
  | d :: r => uptoBulk d + uptoBulkAll r
def uptoBulkEntries {H : Type} : List (Lit × DataW H) → Nat
  | [] => 0
  | x :: r => uptoBulkEntry x + uptoBulkEntries r
def uptoBulkEntry {H : Type} : Lit × DataW H → Nat
  | (.string bytes, d) => bytes.length + uptoBulk d + 1
  | (_, d) => uptoBulk d + 1
 end
def uptoSmall : (H : Type) → List (DataW H) → Bool := fun _ ds => decide (uptoBulkAll ds ≤ 1048576)
def OpenSpec.upto (s : _root_.Go.ChangeSpec) : _root_.Go.OpenSpec := { _root_.Go.OpenSpec.ofChange s with cond := some uptoSmall }

/-- 'siskinlaw06.FlockSets', WHERE WHAT IT READS IS OF BULK AT MOST 1048576: true; the input reads as it did. -/
def flockSetsUptoRow : OpenClaim := { program := "ytadjmgmdnekllaa", sum := "e8a23e519da128cc372f9f95588b8b9679e859fbe2126180d4761d6a6f274caa", func := "siskin/siskinlaw06.FlockSets", spec := "flockSets", unfollowed := true, recurses := true, apart := false, narrowed := true }
def FlockSetsUptoSaid : Prop := flockSetsUptoRow.holds Try.pinned (OpenSpec.upto flockSetsSpec)

/-- 'siskinlaw06.FlockLists', WHERE WHAT IT READS IS OF BULK AT MOST 1048576: true; the input reads as it did. -/
def flockListsUptoRow : OpenClaim := { program := "ytadjmgmdnekllaa", sum := "e8a23e519da128cc372f9f95588b8b9679e859fbe2126180d4761d6a6f274caa", func := "siskin/siskinlaw06.FlockLists", spec := "flockLists", unfollowed := true, recurses := true, apart := false, narrowed := true }
def FlockListsUptoSaid : Prop := flockListsUptoRow.holds Try.pinned (OpenSpec.upto flockListsSpec)

/-- 'siskinlaw07.DrawPlays', WHERE WHAT IT READS IS OF BULK AT MOST 1048576: true; the input reads as it did. -/
def drawPlaysUptoRow : OpenClaim := { program := "ytadjmgmdnekllaa", sum := "e8a23e519da128cc372f9f95588b8b9679e859fbe2126180d4761d6a6f274caa", func := "siskin/siskinlaw07.DrawPlays", spec := "drawPlays", unfollowed := true, recurses := true, apart := false, narrowed := true }
def DrawPlaysUptoSaid : Prop := drawPlaysUptoRow.holds Try.pinned (OpenSpec.upto drawPlaysSpec)

/-- 'siskinlaw07.DrawOnce', WHERE WHAT IT READS IS OF BULK AT MOST 1048576: true; the input reads as it did. -/
def drawOnceUptoRow : OpenClaim := { program := "ytadjmgmdnekllaa", sum := "e8a23e519da128cc372f9f95588b8b9679e859fbe2126180d4761d6a6f274caa", func := "siskin/siskinlaw07.DrawOnce", spec := "drawOnce", unfollowed := true, recurses := true, apart := false, narrowed := true }
def DrawOnceUptoSaid : Prop := drawOnceUptoRow.holds Try.pinned (OpenSpec.upto drawOnceSpec)

/-- 'siskinlaw07.DrawAny', WHERE WHAT IT READS IS OF BULK AT MOST 1048576: true; the input reads as it did. -/
def drawAnyUptoRow : OpenClaim := { program := "ytadjmgmdnekllaa", sum := "e8a23e519da128cc372f9f95588b8b9679e859fbe2126180d4761d6a6f274caa", func := "siskin/siskinlaw07.DrawAny", spec := "drawAny", unfollowed := true, recurses := true, apart := false, narrowed := true }
def DrawAnyUptoSaid : Prop := drawAnyUptoRow.holds Try.pinned (OpenSpec.upto drawAnySpec)

/-- 'siskinlaw35.RoundDoes', WHERE WHAT IT READS IS OF BULK AT MOST 1048576: true; the input reads as it did. -/
def roundDoesUptoRow : OpenClaim := { program := "ytadjmgmdnekllaa", sum := "e8a23e519da128cc372f9f95588b8b9679e859fbe2126180d4761d6a6f274caa", func := "siskin/siskinlaw35.RoundDoes", spec := "roundDoes", unfollowed := true, recurses := true, apart := false, narrowed := true }
def RoundDoesUptoSaid : Prop := roundDoesUptoRow.holds Try.pinned (OpenSpec.upto roundDoesSpec)

/-- 'siskinlaw29.QueueDoes', WHERE WHAT IT READS IS OF BULK AT MOST 1048576: true; the input reads as it did. -/
def queueDoesUptoRow : OpenClaim := { program := "ytadjmgmdnekllaa", sum := "e8a23e519da128cc372f9f95588b8b9679e859fbe2126180d4761d6a6f274caa", func := "siskin/siskinlaw29.QueueDoes", spec := "queueDoes", unfollowed := true, recurses := true, apart := false, narrowed := true }
def QueueDoesUptoSaid : Prop := queueDoesUptoRow.holds Try.pinned (OpenSpec.upto queueDoesSpec)

/-- 'siskinlaw29.QueueKeeps', WHERE WHAT IT READS IS OF BULK AT MOST 1048576: true; the input reads as it did. -/
def queueKeepsUptoRow : OpenClaim := { program := "ytadjmgmdnekllaa", sum := "e8a23e519da128cc372f9f95588b8b9679e859fbe2126180d4761d6a6f274caa", func := "siskin/siskinlaw29.QueueKeeps", spec := "queueKeeps", unfollowed := true, recurses := true, apart := false, narrowed := true }
def QueueKeepsUptoSaid : Prop := queueKeepsUptoRow.holds Try.pinned (OpenSpec.upto queueKeepsSpec)

/-- 'siskinlaw30.SlotsDoes', WHERE WHAT IT READS IS OF BULK AT MOST 1048576: true; the input reads as it did. -/
def slotsDoesUptoRow : OpenClaim := { program := "ytadjmgmdnekllaa", sum := "e8a23e519da128cc372f9f95588b8b9679e859fbe2126180d4761d6a6f274caa", func := "siskin/siskinlaw30.SlotsDoes", spec := "slotsDoes", unfollowed := true, recurses := true, apart := false, narrowed := true }
def SlotsDoesUptoSaid : Prop := slotsDoesUptoRow.holds Try.pinned (OpenSpec.upto slotsDoesSpec)

/-- 'siskinlaw30.SlotsKeep', WHERE WHAT IT READS IS OF BULK AT MOST 1048576: true; the input reads as it did. -/
def slotsKeepUptoRow : OpenClaim := { program := "ytadjmgmdnekllaa", sum := "e8a23e519da128cc372f9f95588b8b9679e859fbe2126180d4761d6a6f274caa", func := "siskin/siskinlaw30.SlotsKeep", spec := "slotsKeep", unfollowed := true, recurses := true, apart := false, narrowed := true }
def SlotsKeepUptoSaid : Prop := slotsKeepUptoRow.holds Try.pinned (OpenSpec.upto slotsKeepSpec)

/-- 'siskinlaw31.TableDoes', WHERE WHAT IT READS IS OF BULK AT MOST 1048576: true; the input reads as it did. -/
def tableDoesUptoRow : OpenClaim := { program := "ytadjmgmdnekllaa", sum := "e8a23e519da128cc372f9f95588b8b9679e859fbe2126180d4761d6a6f274caa", func := "siskin/siskinlaw31.TableDoes", spec := "tableDoes", inPlace := ["slices.overlaps[siskin/table.Row]"], unfollowed := true, recurses := true, apart := false, narrowed := true }
def TableDoesUptoSaid : Prop := tableDoesUptoRow.holds Try.pinned (OpenSpec.upto tableDoesSpec)

/-- 'siskinlaw31.TableOnce', WHERE WHAT IT READS IS OF BULK AT MOST 1048576: true; the input reads as it did. -/
def tableOnceUptoRow : OpenClaim := { program := "ytadjmgmdnekllaa", sum := "e8a23e519da128cc372f9f95588b8b9679e859fbe2126180d4761d6a6f274caa", func := "siskin/siskinlaw31.TableOnce", spec := "tableOnce", inPlace := ["slices.overlaps[siskin/table.Row]"], unfollowed := true, recurses := true, apart := false, narrowed := true }
def TableOnceUptoSaid : Prop := tableOnceUptoRow.holds Try.pinned (OpenSpec.upto tableOnceSpec)

end Rows
end Go.Proofs.Ytadjmgmdnekllaa
