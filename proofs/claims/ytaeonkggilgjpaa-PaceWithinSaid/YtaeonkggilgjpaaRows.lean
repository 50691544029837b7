/-
  No cell of these rows narrows 'for every input' (looked for: loops, veiled, ifaces, maps, wideKeys, modest, calm, conditions, laid).
  DERIVED. THE GIVEN ROWS OF THIS SEAT. 10 by the template 'for every input the law returns true; each argument reads behind the call as it read before'; 0 by the template 'total and deterministic' (their statements: YtaeonkggilgjpaaTotals.lean).
  GIVEN WITH THE SEED: the statements are not yours to turn. If you find one false, say at which input.
  Laid BY PROGRAM, IN A SANDBOX (cutbox-rows.mjs): the forced cells as the released guide's own fill.sh prints them over the translation 63b11dc93e828194… (all of the seat's roots in one cut). By AI agents, Wed Nov 11 2026. No macro, syntax, notation, axiom, sorry.
-/
import Derived.Test.YtaeonkggilgjpaaChecked
import GoSem.Claim
import GoSem.ClaimJoined
import GoSem.ClaimMapViews
import Derived.JoinedTies
import Derived.KernelRfl
namespace Go.Proofs.Ytaeonkggilgjpaa
/- THE CELL 'sum', in the pinned program and in every row, IS THE sha256 OF THE DUMP (.gsa) THAT YtaeonkggilgjpaaProg.lean LOADS. Nothing in Lean hashes anything: it is a label: what it is worth is what the hold of that sum in a sandbox is worth. -/
noncomputable def Try.pinned : Pinned := { name := "ytaeonkggilgjpaa", sum := "63b11dc93e8281940d4b0b3db92ae431635a91de49aa893182a7ea81e2924076", checked := Try.checked }
namespace Rows
def none {H : Type} : Left H := { results := [], args := [] }

/-- 'siskinlaw07.DrawPlays': WHATEVER THE INPUT: true; the input reads as it did. -/
def drawPlaysSpec : ChangeSpec := { name := "drawPlays", fn := fun _ => fun
  | [d1, d2] => { results := [.lit (.bool true)], args := [d1, d2] }
  | _ => none }
def drawPlaysRow : OpenClaim := { program := "ytaeonkggilgjpaa", sum := "63b11dc93e8281940d4b0b3db92ae431635a91de49aa893182a7ea81e2924076", func := "siskin/siskinlaw07.DrawPlays", spec := "drawPlays", unfollowed := true, recurses := true, apart := false }
def DrawPlaysSaid : Prop := drawPlaysRow.holds Try.pinned (OpenSpec.ofChange drawPlaysSpec)

/-- ITS FALSE NEIGHBOUR: 'it returns false'. Refute it at one input. -/
def drawPlaysWrong : ChangeSpec := { name := "drawPlays", fn := fun _ => fun
  | [d1, d2] => { results := [.lit (.bool false)], args := [d1, d2] }
  | _ => none }
def DrawPlaysWrongFalsely : Prop := drawPlaysRow.holds Try.pinned (OpenSpec.ofChange drawPlaysWrong)

/-- 'siskinlaw07.DrawOnce': WHATEVER THE INPUT: true; the input reads as it did. -/
def drawOnceSpec : ChangeSpec := { name := "drawOnce", fn := fun _ => fun
  | [d1, d2, d3] => { results := [.lit (.bool true)], args := [d1, d2, d3] }
  | _ => none }
def drawOnceRow : OpenClaim := { program := "ytaeonkggilgjpaa", sum := "63b11dc93e8281940d4b0b3db92ae431635a91de49aa893182a7ea81e2924076", func := "siskin/siskinlaw07.DrawOnce", spec := "drawOnce", unfollowed := true, recurses := true, apart := false }
def DrawOnceSaid : Prop := drawOnceRow.holds Try.pinned (OpenSpec.ofChange drawOnceSpec)

/-- ITS FALSE NEIGHBOUR: 'it returns false'. Refute it at one input. -/
def drawOnceWrong : ChangeSpec := { name := "drawOnce", fn := fun _ => fun
  | [d1, d2, d3] => { results := [.lit (.bool false)], args := [d1, d2, d3] }
  | _ => none }
def DrawOnceWrongFalsely : Prop := drawOnceRow.holds Try.pinned (OpenSpec.ofChange drawOnceWrong)

/-- 'siskinlaw07.DrawAny': WHATEVER THE INPUT: true; the input reads as it did. -/
def drawAnySpec : ChangeSpec := { name := "drawAny", fn := fun _ => fun
  | [d1, d2] => { results := [.lit (.bool true)], args := [d1, d2] }
  | _ => none }
def drawAnyRow : OpenClaim := { program := "ytaeonkggilgjpaa", sum := "63b11dc93e8281940d4b0b3db92ae431635a91de49aa893182a7ea81e2924076", func := "siskin/siskinlaw07.DrawAny", spec := "drawAny", unfollowed := true, recurses := true, apart := false }
def DrawAnySaid : Prop := drawAnyRow.holds Try.pinned (OpenSpec.ofChange drawAnySpec)

/-- ITS FALSE NEIGHBOUR: 'it returns false'. Refute it at one input. -/
def drawAnyWrong : ChangeSpec := { name := "drawAny", fn := fun _ => fun
  | [d1, d2] => { results := [.lit (.bool false)], args := [d1, d2] }
  | _ => none }
def DrawAnyWrongFalsely : Prop := drawAnyRow.holds Try.pinned (OpenSpec.ofChange drawAnyWrong)

/-- 'siskinlaw13.PaceDoes': WHATEVER THE INPUT: true; the input reads as it did. -/
def paceDoesSpec : ChangeSpec := { name := "paceDoes", fn := fun _ => fun
  | [d] => { results := [.lit (.bool true)], args := [d] }
  | _ => none }
def paceDoesRow : OpenClaim := { program := "ytaeonkggilgjpaa", sum := "63b11dc93e8281940d4b0b3db92ae431635a91de49aa893182a7ea81e2924076", func := "siskin/siskinlaw13.PaceDoes", spec := "paceDoes", apart := false }
def PaceDoesSaid : Prop := paceDoesRow.holds Try.pinned (OpenSpec.ofChange paceDoesSpec)

/-- ITS FALSE NEIGHBOUR: 'it returns false'. Refute it at one input. -/
def paceDoesWrong : ChangeSpec := { name := "paceDoes", fn := fun _ => fun
  | [d] => { results := [.lit (.bool false)], args := [d] }
  | _ => none }
def PaceDoesWrongFalsely : Prop := paceDoesRow.holds Try.pinned (OpenSpec.ofChange paceDoesWrong)

/-- 'siskinlaw13.PaceWithin': WHATEVER THE INPUT: true; the input reads as it did. -/
def paceWithinSpec : ChangeSpec := { name := "paceWithin", fn := fun _ => fun
  | [d] => { results := [.lit (.bool true)], args := [d] }
  | _ => none }
def paceWithinRow : OpenClaim := { program := "ytaeonkggilgjpaa", sum := "63b11dc93e8281940d4b0b3db92ae431635a91de49aa893182a7ea81e2924076", func := "siskin/siskinlaw13.PaceWithin", spec := "paceWithin", apart := false }
def PaceWithinSaid : Prop := paceWithinRow.holds Try.pinned (OpenSpec.ofChange paceWithinSpec)

/-- ITS FALSE NEIGHBOUR: 'it returns false'. Refute it at one input. -/
def paceWithinWrong : ChangeSpec := { name := "paceWithin", fn := fun _ => fun
  | [d] => { results := [.lit (.bool false)], args := [d] }
  | _ => none }
def PaceWithinWrongFalsely : Prop := paceWithinRow.holds Try.pinned (OpenSpec.ofChange paceWithinWrong)

/-- 'siskinlaw13.PaceGoes': WHATEVER THE INPUT: true; the input reads as it did. -/
def paceGoesSpec : ChangeSpec := { name := "paceGoes", fn := fun _ => fun
  | [d1, d2] => { results := [.lit (.bool true)], args := [d1, d2] }
  | _ => none }
def paceGoesRow : OpenClaim := { program := "ytaeonkggilgjpaa", sum := "63b11dc93e8281940d4b0b3db92ae431635a91de49aa893182a7ea81e2924076", func := "siskin/siskinlaw13.PaceGoes", spec := "paceGoes", apart := false }
def PaceGoesSaid : Prop := paceGoesRow.holds Try.pinned (OpenSpec.ofChange paceGoesSpec)

/-- ITS FALSE NEIGHBOUR: 'it returns false'. Refute it at one input. -/
def paceGoesWrong : ChangeSpec := { name := "paceGoes", fn := fun _ => fun
  | [d1, d2] => { results := [.lit (.bool false)], args := [d1, d2] }
  | _ => none }
def PaceGoesWrongFalsely : Prop := paceGoesRow.holds Try.pinned (OpenSpec.ofChange paceGoesWrong)

/-- 'siskinlaw16.DiskPlays': WHATEVER THE INPUT: true; the input reads as it did. -/
def diskPlaysSpec : ChangeSpec := { name := "diskPlays", fn := fun _ => fun
  | [d1, d2] => { results := [.lit (.bool true)], args := [d1, d2] }
  | _ => none }
def diskPlaysRow : OpenClaim := { program := "ytaeonkggilgjpaa", sum := "63b11dc93e8281940d4b0b3db92ae431635a91de49aa893182a7ea81e2924076", func := "siskin/siskinlaw16.DiskPlays", spec := "diskPlays", apart := false }
def DiskPlaysSaid : Prop := diskPlaysRow.holds Try.pinned (OpenSpec.ofChange diskPlaysSpec)

/-- ITS FALSE NEIGHBOUR: 'it returns false'. Refute it at one input. -/
def diskPlaysWrong : ChangeSpec := { name := "diskPlays", fn := fun _ => fun
  | [d1, d2] => { results := [.lit (.bool false)], args := [d1, d2] }
  | _ => none }
def DiskPlaysWrongFalsely : Prop := diskPlaysRow.holds Try.pinned (OpenSpec.ofChange diskPlaysWrong)

/-- 'siskinlaw16.DiskTorn': WHATEVER THE INPUT: true; the input reads as it did. -/
def diskTornSpec : ChangeSpec := { name := "diskTorn", fn := fun _ => fun
  | [d1, d2] => { results := [.lit (.bool true)], args := [d1, d2] }
  | _ => none }
def diskTornRow : OpenClaim := { program := "ytaeonkggilgjpaa", sum := "63b11dc93e8281940d4b0b3db92ae431635a91de49aa893182a7ea81e2924076", func := "siskin/siskinlaw16.DiskTorn", spec := "diskTorn", apart := false }
def DiskTornSaid : Prop := diskTornRow.holds Try.pinned (OpenSpec.ofChange diskTornSpec)

/-- ITS FALSE NEIGHBOUR: 'it returns false'. Refute it at one input. -/
def diskTornWrong : ChangeSpec := { name := "diskTorn", fn := fun _ => fun
  | [d1, d2] => { results := [.lit (.bool false)], args := [d1, d2] }
  | _ => none }
def DiskTornWrongFalsely : Prop := diskTornRow.holds Try.pinned (OpenSpec.ofChange diskTornWrong)

/-- 'siskinlaw22.MsgParses': WHATEVER THE INPUT: true; the input reads as it did. -/
def msgParsesSpec : ChangeSpec := { name := "msgParses", fn := fun _ => fun
  | [d] => { results := [.lit (.bool true)], args := [d] }
  | _ => none }
def msgParsesRow : OpenClaim := { program := "ytaeonkggilgjpaa", sum := "63b11dc93e8281940d4b0b3db92ae431635a91de49aa893182a7ea81e2924076", func := "siskin/siskinlaw22.MsgParses", spec := "msgParses", apart := false }
def MsgParsesSaid : Prop := msgParsesRow.holds Try.pinned (OpenSpec.ofChange msgParsesSpec)

/-- ITS FALSE NEIGHBOUR: 'it returns false'. Refute it at one input. -/
def msgParsesWrong : ChangeSpec := { name := "msgParses", fn := fun _ => fun
  | [d] => { results := [.lit (.bool false)], args := [d] }
  | _ => none }
def MsgParsesWrongFalsely : Prop := msgParsesRow.holds Try.pinned (OpenSpec.ofChange msgParsesWrong)

/-- 'siskinlaw22.MsgBack': WHATEVER THE INPUT: true; the input reads as it did. -/
def msgBackSpec : ChangeSpec := { name := "msgBack", fn := fun _ => fun
  | [d1, d2, d3] => { results := [.lit (.bool true)], args := [d1, d2, d3] }
  | _ => none }
def msgBackRow : OpenClaim := { program := "ytaeonkggilgjpaa", sum := "63b11dc93e8281940d4b0b3db92ae431635a91de49aa893182a7ea81e2924076", func := "siskin/siskinlaw22.MsgBack", spec := "msgBack", apart := false }
def MsgBackSaid : Prop := msgBackRow.holds Try.pinned (OpenSpec.ofChange msgBackSpec)

/-- ITS FALSE NEIGHBOUR: 'it returns false'. Refute it at one input. -/
def msgBackWrong : ChangeSpec := { name := "msgBack", fn := fun _ => fun
  | [d1, d2, d3] => { results := [.lit (.bool false)], args := [d1, d2, d3] }
  | _ => none }
def MsgBackWrongFalsely : Prop := msgBackRow.holds Try.pinned (OpenSpec.ofChange msgBackWrong)

/- THE SECOND FORM. 'bulk': how many values and letters a reading holds, each counted each time it is reached (what is shared counts as often as it is met; a slice's spare places count too). A statement '..UptoSaid' is the law's where the arguments, and the package variables that the reading takes, are together of bulk at most 1048576: NARROWER than '..Said'. Prove '..Said' where nothing that the law and all that it calls make is longer than what came in: it says more and counts as full. Else prove '..UptoSaid'. A law counts once. -/
mutual
def uptoBulk {H : Type} : DataW H → Nat
  | .lit (.string bytes) => bytes.length + 1
  | .lit _ => 1
  | .nil => 1
  | .ptr d => uptoBulk d + 1
  | .slice elems spare => uptoBulkAll elems + uptoBulkAll spare + 1
  | .agg parts => uptoBulkAll parts + 1
  | .iface _ d => uptoBulk d + 1
  | .map entries => uptoBulkEntries entries + 1
  | .held _ => 1
def uptoBulkAll {H : Type} : List (DataW H) → Nat
  | [] => 0
  | d :: r => uptoBulk d + uptoBulkAll r
def uptoBulkEntries {H : Type} : List (Lit × DataW H) → Nat
  | [] => 0
  | x :: r => uptoBulkEntry x + uptoBulkEntries r
def uptoBulkEntry {H : Type} : Lit × DataW H → Nat
  | (.string bytes, d) => bytes.length + uptoBulk d + 1
  | (_, d) => uptoBulk d + 1
 end
def uptoSmall : (H : Type) → List (DataW H) → Bool := fun _ ds => decide (uptoBulkAll ds ≤ 1048576)
def OpenSpec.upto (s : _root_.Go.ChangeSpec) : _root_.Go.OpenSpec := { _root_.Go.OpenSpec.ofChange s with cond := some uptoSmall }

/-- 'siskinlaw07.DrawPlays', WHERE WHAT IT READS IS OF BULK AT MOST 1048576: true; the input reads as it did. -/
def drawPlaysUptoRow : OpenClaim := { program := "ytaeonkggilgjpaa", sum := "63b11dc93e8281940d4b0b3db92ae431635a91de49aa893182a7ea81e2924076", func := "siskin/siskinlaw07.DrawPlays", spec := "drawPlays", unfollowed := true, recurses := true, apart := false, narrowed := true }
def DrawPlaysUptoSaid : Prop := drawPlaysUptoRow.holds Try.pinned (OpenSpec.upto drawPlaysSpec)

/-- 'siskinlaw07.DrawOnce', WHERE WHAT IT READS IS OF BULK AT MOST 1048576: true; the input reads as it did. -/
def drawOnceUptoRow : OpenClaim := { program := "ytaeonkggilgjpaa", sum := "63b11dc93e8281940d4b0b3db92ae431635a91de49aa893182a7ea81e2924076", func := "siskin/siskinlaw07.DrawOnce", spec := "drawOnce", unfollowed := true, recurses := true, apart := false, narrowed := true }
def DrawOnceUptoSaid : Prop := drawOnceUptoRow.holds Try.pinned (OpenSpec.upto drawOnceSpec)

/-- 'siskinlaw07.DrawAny', WHERE WHAT IT READS IS OF BULK AT MOST 1048576: true; the input reads as it did. -/
def drawAnyUptoRow : OpenClaim := { program := "ytaeonkggilgjpaa", sum := "63b11dc93e8281940d4b0b3db92ae431635a91de49aa893182a7ea81e2924076", func := "siskin/siskinlaw07.DrawAny", spec := "drawAny", unfollowed := true, recurses := true, apart := false, narrowed := true }
def DrawAnyUptoSaid : Prop := drawAnyUptoRow.holds Try.pinned (OpenSpec.upto drawAnySpec)

/-- 'siskinlaw13.PaceDoes', WHERE WHAT IT READS IS OF BULK AT MOST 1048576: true; the input reads as it did. -/
def paceDoesUptoRow : OpenClaim := { program := "ytaeonkggilgjpaa", sum := "63b11dc93e8281940d4b0b3db92ae431635a91de49aa893182a7ea81e2924076", func := "siskin/siskinlaw13.PaceDoes", spec := "paceDoes", apart := false, narrowed := true }
def PaceDoesUptoSaid : Prop := paceDoesUptoRow.holds Try.pinned (OpenSpec.upto paceDoesSpec)

/-- 'siskinlaw13.PaceWithin', WHERE WHAT IT READS IS OF BULK AT MOST 1048576: true; the input reads as it did. -/
def paceWithinUptoRow : OpenClaim := { program := "ytaeonkggilgjpaa", sum := "63b11dc93e8281940d4b0b3db92ae431635a91de49aa893182a7ea81e2924076", func := "siskin/siskinlaw13.PaceWithin", spec := "paceWithin", apart := false, narrowed := true }
def PaceWithinUptoSaid : Prop := paceWithinUptoRow.holds Try.pinned (OpenSpec.upto paceWithinSpec)

/-- 'siskinlaw13.PaceGoes', WHERE WHAT IT READS IS OF BULK AT MOST 1048576: true; the input reads as it did. -/
def paceGoesUptoRow : OpenClaim := { program := "ytaeonkggilgjpaa", sum := "63b11dc93e8281940d4b0b3db92ae431635a91de49aa893182a7ea81e2924076", func := "siskin/siskinlaw13.PaceGoes", spec := "paceGoes", apart := false, narrowed := true }
def PaceGoesUptoSaid : Prop := paceGoesUptoRow.holds Try.pinned (OpenSpec.upto paceGoesSpec)

/-- 'siskinlaw16.DiskPlays', WHERE WHAT IT READS IS OF BULK AT MOST 1048576: true; the input reads as it did. -/
def diskPlaysUptoRow : OpenClaim := { program := "ytaeonkggilgjpaa", sum := "63b11dc93e8281940d4b0b3db92ae431635a91de49aa893182a7ea81e2924076", func := "siskin/siskinlaw16.DiskPlays", spec := "diskPlays", apart := false, narrowed := true }
def DiskPlaysUptoSaid : Prop := diskPlaysUptoRow.holds Try.pinned (OpenSpec.upto diskPlaysSpec)

/-- 'siskinlaw16.DiskTorn', WHERE WHAT IT READS IS OF BULK AT MOST 1048576: true; the input reads as it did. -/
def diskTornUptoRow : OpenClaim := { program := "ytaeonkggilgjpaa", sum := "63b11dc93e8281940d4b0b3db92ae431635a91de49aa893182a7ea81e2924076", func := "siskin/siskinlaw16.DiskTorn", spec := "diskTorn", apart := false, narrowed := true }
def DiskTornUptoSaid : Prop := diskTornUptoRow.holds Try.pinned (OpenSpec.upto diskTornSpec)

/-- 'siskinlaw22.MsgParses', WHERE WHAT IT READS IS OF BULK AT MOST 1048576: true; the input reads as it did. -/
def msgParsesUptoRow : OpenClaim := { program := "ytaeonkggilgjpaa", sum := "63b11dc93e8281940d4b0b3db92ae431635a91de49aa893182a7ea81e2924076", func := "siskin/siskinlaw22.MsgParses", spec := "msgParses", apart := false, narrowed := true }
def MsgParsesUptoSaid : Prop := msgParsesUptoRow.holds Try.pinned (OpenSpec.upto msgParsesSpec)

/-- 'siskinlaw22.MsgBack', WHERE WHAT IT READS IS OF BULK AT MOST 1048576: true; the input reads as it did. -/
def msgBackUptoRow : OpenClaim := { program := "ytaeonkggilgjpaa", sum := "63b11dc93e8281940d4b0b3db92ae431635a91de49aa893182a7ea81e2924076", func := "siskin/siskinlaw22.MsgBack", spec := "msgBack", apart := false, narrowed := true }
def MsgBackUptoSaid : Prop := msgBackUptoRow.holds Try.pinned (OpenSpec.upto msgBackSpec)

end Rows
end Go.Proofs.Ytaeonkggilgjpaa
