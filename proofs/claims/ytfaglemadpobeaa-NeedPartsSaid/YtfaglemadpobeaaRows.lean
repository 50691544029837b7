/-
  No cell of these rows narrows 'for every input' (looked for: loops, veiled, ifaces, maps, wideKeys, modest, calm, conditions, laid).
  DERIVED. THE GIVEN ROWS OF THIS SEAT. 5 by the template 'for every input the law returns true; each argument reads behind the call as it read before'; 0 by the template 'total and deterministic' (their statements: YtfaglemadpobeaaTotals.lean).
  GIVEN WITH THE SEED: the statements are not yours to turn. If you find one false, say at which input.
  Laid BY PROGRAM, IN A SANDBOX (cutbox-rows.mjs): the forced cells as the released guide's own fill.sh prints them over the translation c038fa427975151d… (all of the seat's roots in one cut). By AI agents, Wed Nov 11 2026. No macro, syntax, notation, axiom, sorry.
-/
import Derived.Test.YtfaglemadpobeaaChecked
import GoSem.Claim
import GoSem.ClaimJoined
import GoSem.ClaimMapViews
import Derived.JoinedTies
import Derived.KernelRfl
namespace Go.Proofs.Ytfaglemadpobeaa
/- THE CELL 'sum', in the pinned program and in every row, IS THE sha256 OF THE DUMP (.gsa) THAT YtfaglemadpobeaaProg.lean LOADS. Nothing in Lean hashes anything: it is a label: what it is worth is what the hold of that sum in a sandbox is worth. -/
noncomputable def Try.pinned : Pinned := { name := "ytfaglemadpobeaa", sum := "c038fa427975151dccaac007c0eda8a0ac5cc9e62dba5722014e6cb6e2d70e32", checked := Try.checked }
namespace Rows
def none {H : Type} : Left H := { results := [], args := [] }

/-- 'siskinlaw09.NeedChecks': WHATEVER THE INPUT: true; the input reads as it did. -/
def needChecksSpec : ChangeSpec := { name := "needChecks", fn := fun _ => fun
  | [d1, d2] => { results := [.lit (.bool true)], args := [d1, d2] }
  | _ => none }
def needChecksRow : OpenClaim := { program := "ytfaglemadpobeaa", sum := "c038fa427975151dccaac007c0eda8a0ac5cc9e62dba5722014e6cb6e2d70e32", func := "siskin/siskinlaw09.NeedChecks", spec := "needChecks", unfollowed := true, recurses := true, apart := false }
def NeedChecksSaid : Prop := needChecksRow.holds Try.pinned (OpenSpec.ofChange needChecksSpec)

/-- ITS FALSE NEIGHBOUR: 'it returns false'. Refute it at one input. -/
def needChecksWrong : ChangeSpec := { name := "needChecks", fn := fun _ => fun
  | [d1, d2] => { results := [.lit (.bool false)], args := [d1, d2] }
  | _ => none }
def NeedChecksWrongFalsely : Prop := needChecksRow.holds Try.pinned (OpenSpec.ofChange needChecksWrong)

/-- 'siskinlaw09.NeedTells': WHATEVER THE INPUT: true; the input reads as it did. -/
def needTellsSpec : ChangeSpec := { name := "needTells", fn := fun _ => fun
  | [d1, d2] => { results := [.lit (.bool true)], args := [d1, d2] }
  | _ => none }
def needTellsRow : OpenClaim := { program := "ytfaglemadpobeaa", sum := "c038fa427975151dccaac007c0eda8a0ac5cc9e62dba5722014e6cb6e2d70e32", func := "siskin/siskinlaw09.NeedTells", spec := "needTells", unfollowed := true, recurses := true, apart := false }
def NeedTellsSaid : Prop := needTellsRow.holds Try.pinned (OpenSpec.ofChange needTellsSpec)

/-- ITS FALSE NEIGHBOUR: 'it returns false'. Refute it at one input. -/
def needTellsWrong : ChangeSpec := { name := "needTells", fn := fun _ => fun
  | [d1, d2] => { results := [.lit (.bool false)], args := [d1, d2] }
  | _ => none }
def NeedTellsWrongFalsely : Prop := needTellsRow.holds Try.pinned (OpenSpec.ofChange needTellsWrong)

/-- 'siskinlaw09.NeedJoins': WHATEVER THE INPUT: true; the input reads as it did. -/
def needJoinsSpec : ChangeSpec := { name := "needJoins", fn := fun _ => fun
  | [d1, d2] => { results := [.lit (.bool true)], args := [d1, d2] }
  | _ => none }
def needJoinsRow : OpenClaim := { program := "ytfaglemadpobeaa", sum := "c038fa427975151dccaac007c0eda8a0ac5cc9e62dba5722014e6cb6e2d70e32", func := "siskin/siskinlaw09.NeedJoins", spec := "needJoins", unfollowed := true, recurses := true, apart := false }
def NeedJoinsSaid : Prop := needJoinsRow.holds Try.pinned (OpenSpec.ofChange needJoinsSpec)

/-- ITS FALSE NEIGHBOUR: 'it returns false'. Refute it at one input. -/
def needJoinsWrong : ChangeSpec := { name := "needJoins", fn := fun _ => fun
  | [d1, d2] => { results := [.lit (.bool false)], args := [d1, d2] }
  | _ => none }
def NeedJoinsWrongFalsely : Prop := needJoinsRow.holds Try.pinned (OpenSpec.ofChange needJoinsWrong)

/-- 'siskinlaw09.NeedParts': WHATEVER THE INPUT: true; the input reads as it did. -/
def needPartsSpec : ChangeSpec := { name := "needParts", fn := fun _ => fun
  | [d1, d2, d3] => { results := [.lit (.bool true)], args := [d1, d2, d3] }
  | _ => none }
def needPartsRow : OpenClaim := { program := "ytfaglemadpobeaa", sum := "c038fa427975151dccaac007c0eda8a0ac5cc9e62dba5722014e6cb6e2d70e32", func := "siskin/siskinlaw09.NeedParts", spec := "needParts", unfollowed := true, recurses := true, apart := false }
def NeedPartsSaid : Prop := needPartsRow.holds Try.pinned (OpenSpec.ofChange needPartsSpec)

/-- ITS FALSE NEIGHBOUR: 'it returns false'. Refute it at one input. -/
def needPartsWrong : ChangeSpec := { name := "needParts", fn := fun _ => fun
  | [d1, d2, d3] => { results := [.lit (.bool false)], args := [d1, d2, d3] }
  | _ => none }
def NeedPartsWrongFalsely : Prop := needPartsRow.holds Try.pinned (OpenSpec.ofChange needPartsWrong)

/-- 'siskinlaw09.NeedAsks': WHATEVER THE INPUT: true; the input reads as it did. -/
def needAsksSpec : ChangeSpec := { name := "needAsks", fn := fun _ => fun
  | [d1, d2] => { results := [.lit (.bool true)], args := [d1, d2] }
  | _ => none }
def needAsksRow : OpenClaim := { program := "ytfaglemadpobeaa", sum := "c038fa427975151dccaac007c0eda8a0ac5cc9e62dba5722014e6cb6e2d70e32", func := "siskin/siskinlaw09.NeedAsks", spec := "needAsks", unfollowed := true, recurses := true, apart := false }
def NeedAsksSaid : Prop := needAsksRow.holds Try.pinned (OpenSpec.ofChange needAsksSpec)

/-- ITS FALSE NEIGHBOUR: 'it returns false'. Refute it at one input. -/
def needAsksWrong : ChangeSpec := { name := "needAsks", fn := fun _ => fun
  | [d1, d2] => { results := [.lit (.bool false)], args := [d1, d2] }
  | _ => none }
def NeedAsksWrongFalsely : Prop := needAsksRow.holds Try.pinned (OpenSpec.ofChange needAsksWrong)

/- THE SECOND FORM. 'bulk': how many values and letters a reading holds, each counted each time it is reached (what is shared counts as often as it is met; a slice's spare places count too). A statement '..UptoSaid' is the law's where the arguments, and the package variables that the reading takes, are together of bulk at most 1048576: NARROWER than '..Said'. Prove '..Said' where nothing that the law and all that it calls make is longer than what came in: it says more and counts as full. Else prove '..UptoSaid'. A law counts once. -/
mutual
def uptoBulk {H : Type} : DataW H → Nat
  | .lit (.string bytes) => bytes.length + 1
  | .lit _ => 1
  | .nil => 1
  | .ptr d => uptoBulk d + 1
  | .slice elems spare => uptoBulkAll elems + uptoBulkAll spare + 1
  | .agg parts => uptoBulkAll parts + 1
  | .iface _ d => uptoBulk d + 1
  | .map entries => uptoBulkEntries entries + 1
  | .held _ => 1
def uptoBulkAll {H : Type} : List (DataW H) → Nat
  | [] => 0
  | d :: r => uptoBulk d + uptoBulkAll r
def uptoBulkEntries {H : Type} : List (Lit × DataW H) → Nat
  | [] => 0
  | x :: r => uptoBulkEntry x + uptoBulkEntries r
def uptoBulkEntry {H : Type} : Lit × DataW H → Nat
  | (.string bytes, d) => bytes.length + uptoBulk d + 1
  | (_, d) => uptoBulk d + 1
 end
def uptoSmall : (H : Type) → List (DataW H) → Bool := fun _ ds => decide (uptoBulkAll ds ≤ 1048576)
def OpenSpec.upto (s : _root_.Go.ChangeSpec) : _root_.Go.OpenSpec := { _root_.Go.OpenSpec.ofChange s with cond := some uptoSmall }

/-- 'siskinlaw09.NeedChecks', WHERE WHAT IT READS IS OF BULK AT MOST 1048576: true; the input reads as it did. -/
def needChecksUptoRow : OpenClaim := { program := "ytfaglemadpobeaa", sum := "c038fa427975151dccaac007c0eda8a0ac5cc9e62dba5722014e6cb6e2d70e32", func := "siskin/siskinlaw09.NeedChecks", spec := "needChecks", unfollowed := true, recurses := true, apart := false, narrowed := true }
def NeedChecksUptoSaid : Prop := needChecksUptoRow.holds Try.pinned (OpenSpec.upto needChecksSpec)

/-- 'siskinlaw09.NeedTells', WHERE WHAT IT READS IS OF BULK AT MOST 1048576: true; the input reads as it did. -/
def needTellsUptoRow : OpenClaim := { program := "ytfaglemadpobeaa", sum := "c038fa427975151dccaac007c0eda8a0ac5cc9e62dba5722014e6cb6e2d70e32", func := "siskin/siskinlaw09.NeedTells", spec := "needTells", unfollowed := true, recurses := true, apart := false, narrowed := true }
def NeedTellsUptoSaid : Prop := needTellsUptoRow.holds Try.pinned (OpenSpec.upto needTellsSpec)

/-- 'siskinlaw09.NeedJoins', WHERE WHAT IT READS IS OF BULK AT MOST 1048576: true; the input reads as it did. -/
def needJoinsUptoRow : OpenClaim := { program := "ytfaglemadpobeaa", sum := "c038fa427975151dccaac007c0eda8a0ac5cc9e62dba5722014e6cb6e2d70e32", func := "siskin/siskinlaw09.NeedJoins", spec := "needJoins", unfollowed := true, recurses := true, apart := false, narrowed := true }
def NeedJoinsUptoSaid : Prop := needJoinsUptoRow.holds Try.pinned (OpenSpec.upto needJoinsSpec)

/-- 'siskinlaw09.NeedParts', WHERE WHAT IT READS IS OF BULK AT MOST 1048576: true; the input reads as it did. -/
def needPartsUptoRow : OpenClaim := { program := "ytfaglemadpobeaa", sum := "c038fa427975151dccaac007c0eda8a0ac5cc9e62dba5722014e6cb6e2d70e32", func := "siskin/siskinlaw09.NeedParts", spec := "needParts", unfollowed := true, recurses := true, apart := false, narrowed := true }
def NeedPartsUptoSaid : Prop := needPartsUptoRow.holds Try.pinned (OpenSpec.upto needPartsSpec)

/-- 'siskinlaw09.NeedAsks', WHERE WHAT IT READS IS OF BULK AT MOST 1048576: true; the input reads as it did. -/
def needAsksUptoRow : OpenClaim := { program := "ytfaglemadpobeaa", sum := "c038fa427975151dccaac007c0eda8a0ac5cc9e62dba5722014e6cb6e2d70e32", func := "siskin/siskinlaw09.NeedAsks", spec := "needAsks", unfollowed := true, recurses := true, apart := false, narrowed := true }
def NeedAsksUptoSaid : Prop := needAsksUptoRow.holds Try.pinned (OpenSpec.upto needAsksSpec)

end Rows
end Go.Proofs.Ytfaglemadpobeaa
