/-
  No cell of these rows narrows 'for every input' (looked for: loops, veiled, ifaces, maps, wideKeys, modest, calm, conditions, laid).
  DERIVED. THE GIVEN ROWS OF THIS SEAT. 2 by the template 'for every input the law returns true; each argument reads behind the call as it read before'; 0 by the template 'total and deterministic' (their statements: YtgakobolhmdnnaaGreatTotals.lean).
  GIVEN WITH THE SEED: the statements are not yours to turn. If you find one false, say at which input.
  Laid BY PROGRAM, IN A SANDBOX (cutbox-rows.mjs): the forced cells as the released guide's own fill.sh prints them over the translation eb8e6ba69710d74c… (all of the seat's roots in one cut). By AI agents, Wed Nov 11 2026. No macro, syntax, notation, axiom, sorry.
-/
import Derived.Test.YtgakobolhmdnnaaGreatChecked
import GoSem.Claim
import GoSem.ClaimJoined
import GoSem.ClaimMapViews
import Derived.JoinedTies
import Derived.KernelRfl
namespace Go.Proofs.YtgakobolhmdnnaaGreat
/- THE CELL 'sum', in the pinned program and in every row, IS THE sha256 OF THE DUMP (.gsa) THAT YtgakobolhmdnnaaGreatProg.lean LOADS. Nothing in Lean hashes anything: it is a label: what it is worth is what the hold of that sum in a sandbox is worth. -/
noncomputable def Tryz.pinned : Pinned := { name := "ytgakobolhmdnnaagreat", sum := "eb8e6ba69710d74cc4d789c33dd8d01558439981a916323bf0adde9cbdf7077c", checked := Tryz.checked }
namespace Rows
def none {H : Type} : Left H := { results := [], args := [] }

/-- 'siskinlaw33.ProbeRounds': WHATEVER THE INPUT: true; the input reads as it did. -/
def probeRoundsSpec : ChangeSpec := { name := "probeRounds", fn := fun _ => fun
  | [d1, d2, d3] => { results := [.lit (.bool true)], args := [d1, d2, d3] }
  | _ => none }
def probeRoundsRow : OpenClaim := { program := "ytgakobolhmdnnaagreat", sum := "eb8e6ba69710d74cc4d789c33dd8d01558439981a916323bf0adde9cbdf7077c", func := "siskin/siskinlaw33.ProbeRounds", spec := "probeRounds", unfollowed := true, recurses := true, apart := false }
def ProbeRoundsSaid : Prop := probeRoundsRow.holds Tryz.pinned (OpenSpec.ofChange probeRoundsSpec)

/-- ITS FALSE NEIGHBOUR: 'it returns false'. Refute it at one input. -/
def probeRoundsWrong : ChangeSpec := { name := "probeRounds", fn := fun _ => fun
  | [d1, d2, d3] => { results := [.lit (.bool false)], args := [d1, d2, d3] }
  | _ => none }
def ProbeRoundsWrongFalsely : Prop := probeRoundsRow.holds Tryz.pinned (OpenSpec.ofChange probeRoundsWrong)

/-- 'siskinlaw40.SpecAnswers': WHATEVER THE INPUT: true; the input reads as it did. -/
def specAnswersSpec : ChangeSpec := { name := "specAnswers", fn := fun _ => fun
  | [d1, d2, d3] => { results := [.lit (.bool true)], args := [d1, d2, d3] }
  | _ => none }
def specAnswersRow : OpenClaim := { program := "ytgakobolhmdnnaagreat", sum := "eb8e6ba69710d74cc4d789c33dd8d01558439981a916323bf0adde9cbdf7077c", func := "siskin/siskinlaw40.SpecAnswers", spec := "specAnswers", unfollowed := true, recurses := true, apart := false }
def SpecAnswersSaid : Prop := specAnswersRow.holds Tryz.pinned (OpenSpec.ofChange specAnswersSpec)

/-- ITS FALSE NEIGHBOUR: 'it returns false'. Refute it at one input. -/
def specAnswersWrong : ChangeSpec := { name := "specAnswers", fn := fun _ => fun
  | [d1, d2, d3] => { results := [.lit (.bool false)], args := [d1, d2, d3] }
  | _ => none }
def SpecAnswersWrongFalsely : Prop := specAnswersRow.holds Tryz.pinned (OpenSpec.ofChange specAnswersWrong)

/- THE SECOND FORM. 'bulk': how many values and letters a reading holds, each counted each time it is reached (what is shared counts as often as it is met; a slice's spare places count too). A statement '..UptoSaid' is the law's where the arguments, and the package variables that the reading takes, are together of bulk at most 1048576: NARROWER than '..Said'. Prove '..Said' where nothing that the law and all that it calls make is longer than what came in: it says more and counts as full. Else prove '..UptoSaid'. A law counts once. -/
mutual
def uptoBulk {H : Type} : DataW H → Nat
  | .lit (.string bytes) => bytes.length + 1
  | .lit _ => 1
  | .nil => 1
  | .ptr d => uptoBulk d + 1
  | .slice elems spare => uptoBulkAll elems + uptoBulkAll spare + 1
  | .agg parts => uptoBulkAll parts + 1
  | .iface _ d => uptoBulk d + 1
  | .map entries => uptoBulkEntries entries + 1
  | .held _ => 1
def uptoBulkAll {H : Type} : List (DataW H) → Nat
  | [] => 0
  | d :: r => uptoBulk d + uptoBulkAll r
def uptoBulkEntries {H : Type} : List (Lit × DataW H) → Nat
  | [] => 0
  | x :: r => uptoBulkEntry x + uptoBulkEntries r
def uptoBulkEntry {H : Type} : Lit × DataW H → Nat
  | (.string bytes, d) => bytes.length + uptoBulk d + 1
  | (_, d) => uptoBulk d + 1
 end
def uptoSmall : (H : Type) → List (DataW H) → Bool := fun _ ds => decide (uptoBulkAll ds ≤ 1048576)
def OpenSpec.upto (s : _root_.Go.ChangeSpec) : _root_.Go.OpenSpec := { _root_.Go.OpenSpec.ofChange s with cond := some uptoSmall }

/-- 'siskinlaw33.ProbeRounds', WHERE WHAT IT READS IS OF BULK AT MOST 1048576: true; the input reads as it did. -/
def probeRoundsUptoRow : OpenClaim := { program := "ytgakobolhmdnnaagreat", sum := "eb8e6ba69710d74cc4d789c33dd8d01558439981a916323bf0adde9cbdf7077c", func := "siskin/siskinlaw33.ProbeRounds", spec := "probeRounds", unfollowed := true, recurses := true, apart := false, narrowed := true }
def ProbeRoundsUptoSaid : Prop := probeRoundsUptoRow.holds Tryz.pinned (OpenSpec.upto probeRoundsSpec)

/-- 'siskinlaw40.SpecAnswers', WHERE WHAT IT READS IS OF BULK AT MOST 1048576: true; the input reads as it did. -/
def specAnswersUptoRow : OpenClaim := { program := "ytgakobolhmdnnaagreat", sum := "eb8e6ba69710d74cc4d789c33dd8d01558439981a916323bf0adde9cbdf7077c", func := "siskin/siskinlaw40.SpecAnswers", spec := "specAnswers", unfollowed := true, recurses := true, apart := false, narrowed := true }
def SpecAnswersUptoSaid : Prop := specAnswersUptoRow.holds Tryz.pinned (OpenSpec.upto specAnswersSpec)

end Rows
end Go.Proofs.YtgakobolhmdnnaaGreat
