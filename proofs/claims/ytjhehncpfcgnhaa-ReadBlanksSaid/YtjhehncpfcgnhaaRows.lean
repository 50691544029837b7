/-
  No cell of these rows narrows 'for every input' (looked for: loops, veiled, ifaces, maps, wideKeys, modest, calm, conditions, laid).
  DERIVED. THE GIVEN ROWS OF THIS SEAT. 12 by the template 'for every input the law returns true; each argument reads behind the call as it read before'; 0 by the template 'total and deterministic' (their statements: YtjhehncpfcgnhaaTotals.lean).
  GIVEN WITH THE SEED: the statements are not yours to turn. If you find one false, say at which input.
  Laid BY PROGRAM, IN A SANDBOX (cutbox-rows.mjs): the forced cells as the released guide's own fill.sh prints them over the translation 5d833f3eaf3c8040… (all of the seat's roots in one cut). By AI agents, Wed Nov 11 2026. No macro, syntax, notation, axiom, sorry.
-/
import Derived.Test.YtjhehncpfcgnhaaChecked
import GoSem.Claim
import GoSem.ClaimJoined
import GoSem.ClaimMapViews
import Derived.JoinedTies
import Derived.KernelRfl
namespace Go.Proofs.Ytjhehncpfcgnhaa
/- THE CELL 'sum', in the pinned program and in every row, IS THE sha256 OF THE DUMP (.gsa) THAT YtjhehncpfcgnhaaProg.lean LOADS. Nothing in Lean hashes anything: it is a label: what it is worth is what the hold of that sum in a sandbox is worth. -/
noncomputable def Try.pinned : Pinned := { name := "ytjhehncpfcgnhaa", sum := "5d833f3eaf3c8040350d30d54a35027f295629097ad25fe293204317678c6c14", checked := Try.checked }
namespace Rows
def none {H : Type} : Left H := { results := [], args := [] }

/-- 'siskinlaw10.ReadNeeds': WHATEVER THE INPUT: true; the input reads as it did. -/
def readNeedsSpec : ChangeSpec := { name := "readNeeds", fn := fun _ => fun
  | [d1, d2] => { results := [.lit (.bool true)], args := [d1, d2] }
  | _ => none }
def readNeedsRow : OpenClaim := { program := "ytjhehncpfcgnhaa", sum := "5d833f3eaf3c8040350d30d54a35027f295629097ad25fe293204317678c6c14", func := "siskin/siskinlaw10.ReadNeeds", spec := "readNeeds", unfollowed := true, recurses := true, apart := false }
def ReadNeedsSaid : Prop := readNeedsRow.holds Try.pinned (OpenSpec.ofChange readNeedsSpec)

/-- ITS FALSE NEIGHBOUR: 'it returns false'. Refute it at one input. -/
def readNeedsWrong : ChangeSpec := { name := "readNeeds", fn := fun _ => fun
  | [d1, d2] => { results := [.lit (.bool false)], args := [d1, d2] }
  | _ => none }
def ReadNeedsWrongFalsely : Prop := readNeedsRow.holds Try.pinned (OpenSpec.ofChange readNeedsWrong)

/-- 'siskinlaw10.ReadBlanks': WHATEVER THE INPUT: true; the input reads as it did. -/
def readBlanksSpec : ChangeSpec := { name := "readBlanks", fn := fun _ => fun
  | [d1, d2, d3] => { results := [.lit (.bool true)], args := [d1, d2, d3] }
  | _ => none }
def readBlanksRow : OpenClaim := { program := "ytjhehncpfcgnhaa", sum := "5d833f3eaf3c8040350d30d54a35027f295629097ad25fe293204317678c6c14", func := "siskin/siskinlaw10.ReadBlanks", spec := "readBlanks", unfollowed := true, recurses := true, apart := false }
def ReadBlanksSaid : Prop := readBlanksRow.holds Try.pinned (OpenSpec.ofChange readBlanksSpec)

/-- ITS FALSE NEIGHBOUR: 'it returns false'. Refute it at one input. -/
def readBlanksWrong : ChangeSpec := { name := "readBlanks", fn := fun _ => fun
  | [d1, d2, d3] => { results := [.lit (.bool false)], args := [d1, d2, d3] }
  | _ => none }
def ReadBlanksWrongFalsely : Prop := readBlanksRow.holds Try.pinned (OpenSpec.ofChange readBlanksWrong)

/-- 'siskinlaw11.ShowTexts': WHATEVER THE INPUT: true; the input reads as it did. -/
def showTextsSpec : ChangeSpec := { name := "showTexts", fn := fun _ => fun
  | [d1, d2, d3] => { results := [.lit (.bool true)], args := [d1, d2, d3] }
  | _ => none }
def showTextsRow : OpenClaim := { program := "ytjhehncpfcgnhaa", sum := "5d833f3eaf3c8040350d30d54a35027f295629097ad25fe293204317678c6c14", func := "siskin/siskinlaw11.ShowTexts", spec := "showTexts", inPlace := ["internal/abi.NoEscape"], unfollowed := true, recurses := true, apart := false }
def ShowTextsSaid : Prop := showTextsRow.holds Try.pinned (OpenSpec.ofChange showTextsSpec)

/-- ITS FALSE NEIGHBOUR: 'it returns false'. Refute it at one input. -/
def showTextsWrong : ChangeSpec := { name := "showTexts", fn := fun _ => fun
  | [d1, d2, d3] => { results := [.lit (.bool false)], args := [d1, d2, d3] }
  | _ => none }
def ShowTextsWrongFalsely : Prop := showTextsRow.holds Try.pinned (OpenSpec.ofChange showTextsWrong)

/-- 'siskinlaw11.ShowBack': WHATEVER THE INPUT: true; the input reads as it did. -/
def showBackSpec : ChangeSpec := { name := "showBack", fn := fun _ => fun
  | [d1, d2, d3] => { results := [.lit (.bool true)], args := [d1, d2, d3] }
  | _ => none }
def showBackRow : OpenClaim := { program := "ytjhehncpfcgnhaa", sum := "5d833f3eaf3c8040350d30d54a35027f295629097ad25fe293204317678c6c14", func := "siskin/siskinlaw11.ShowBack", spec := "showBack", unfollowed := true, recurses := true, apart := false }
def ShowBackSaid : Prop := showBackRow.holds Try.pinned (OpenSpec.ofChange showBackSpec)

/-- ITS FALSE NEIGHBOUR: 'it returns false'. Refute it at one input. -/
def showBackWrong : ChangeSpec := { name := "showBack", fn := fun _ => fun
  | [d1, d2, d3] => { results := [.lit (.bool false)], args := [d1, d2, d3] }
  | _ => none }
def ShowBackWrongFalsely : Prop := showBackRow.holds Try.pinned (OpenSpec.ofChange showBackWrong)

/-- 'siskinlaw08.LexWords': WHATEVER THE INPUT: true; the input reads as it did. -/
def lexWordsSpec : ChangeSpec := { name := "lexWords", fn := fun _ => fun
  | [d] => { results := [.lit (.bool true)], args := [d] }
  | _ => none }
def lexWordsRow : OpenClaim := { program := "ytjhehncpfcgnhaa", sum := "5d833f3eaf3c8040350d30d54a35027f295629097ad25fe293204317678c6c14", func := "siskin/siskinlaw08.LexWords", spec := "lexWords", apart := false }
def LexWordsSaid : Prop := lexWordsRow.holds Try.pinned (OpenSpec.ofChange lexWordsSpec)

/-- ITS FALSE NEIGHBOUR: 'it returns false'. Refute it at one input. -/
def lexWordsWrong : ChangeSpec := { name := "lexWords", fn := fun _ => fun
  | [d] => { results := [.lit (.bool false)], args := [d] }
  | _ => none }
def LexWordsWrongFalsely : Prop := lexWordsRow.holds Try.pinned (OpenSpec.ofChange lexWordsWrong)

/-- 'siskinlaw08.LexBack': WHATEVER THE INPUT: true; the input reads as it did. -/
def lexBackSpec : ChangeSpec := { name := "lexBack", fn := fun _ => fun
  | [d1, d2] => { results := [.lit (.bool true)], args := [d1, d2] }
  | _ => none }
def lexBackRow : OpenClaim := { program := "ytjhehncpfcgnhaa", sum := "5d833f3eaf3c8040350d30d54a35027f295629097ad25fe293204317678c6c14", func := "siskin/siskinlaw08.LexBack", spec := "lexBack", inPlace := ["internal/abi.NoEscape"], apart := false }
def LexBackSaid : Prop := lexBackRow.holds Try.pinned (OpenSpec.ofChange lexBackSpec)

/-- ITS FALSE NEIGHBOUR: 'it returns false'. Refute it at one input. -/
def lexBackWrong : ChangeSpec := { name := "lexBack", fn := fun _ => fun
  | [d1, d2] => { results := [.lit (.bool false)], args := [d1, d2] }
  | _ => none }
def LexBackWrongFalsely : Prop := lexBackRow.holds Try.pinned (OpenSpec.ofChange lexBackWrong)

/-- 'siskinlaw04.GlyphNames': WHATEVER THE INPUT: true; the input reads as it did. -/
def glyphNamesSpec : ChangeSpec := { name := "glyphNames", fn := fun _ => fun
  | [d1, d2] => { results := [.lit (.bool true)], args := [d1, d2] }
  | _ => none }
def glyphNamesRow : OpenClaim := { program := "ytjhehncpfcgnhaa", sum := "5d833f3eaf3c8040350d30d54a35027f295629097ad25fe293204317678c6c14", func := "siskin/siskinlaw04.GlyphNames", spec := "glyphNames", apart := false }
def GlyphNamesSaid : Prop := glyphNamesRow.holds Try.pinned (OpenSpec.ofChange glyphNamesSpec)

/-- ITS FALSE NEIGHBOUR: 'it returns false'. Refute it at one input. -/
def glyphNamesWrong : ChangeSpec := { name := "glyphNames", fn := fun _ => fun
  | [d1, d2] => { results := [.lit (.bool false)], args := [d1, d2] }
  | _ => none }
def GlyphNamesWrongFalsely : Prop := glyphNamesRow.holds Try.pinned (OpenSpec.ofChange glyphNamesWrong)

/-- 'siskinlaw05.NamesSets': WHATEVER THE INPUT: true; the input reads as it did. -/
def namesSetsSpec : ChangeSpec := { name := "namesSets", fn := fun _ => fun
  | [d1, d2, d3] => { results := [.lit (.bool true)], args := [d1, d2, d3] }
  | _ => none }
def namesSetsRow : OpenClaim := { program := "ytjhehncpfcgnhaa", sum := "5d833f3eaf3c8040350d30d54a35027f295629097ad25fe293204317678c6c14", func := "siskin/siskinlaw05.NamesSets", spec := "namesSets", unfollowed := true, recurses := true, apart := false }
def NamesSetsSaid : Prop := namesSetsRow.holds Try.pinned (OpenSpec.ofChange namesSetsSpec)

/-- ITS FALSE NEIGHBOUR: 'it returns false'. Refute it at one input. -/
def namesSetsWrong : ChangeSpec := { name := "namesSets", fn := fun _ => fun
  | [d1, d2, d3] => { results := [.lit (.bool false)], args := [d1, d2, d3] }
  | _ => none }
def NamesSetsWrongFalsely : Prop := namesSetsRow.holds Try.pinned (OpenSpec.ofChange namesSetsWrong)

/-- 'siskinlaw09.NeedChecks': WHATEVER THE INPUT: true; the input reads as it did. -/
def needChecksSpec : ChangeSpec := { name := "needChecks", fn := fun _ => fun
  | [d1, d2] => { results := [.lit (.bool true)], args := [d1, d2] }
  | _ => none }
def needChecksRow : OpenClaim := { program := "ytjhehncpfcgnhaa", sum := "5d833f3eaf3c8040350d30d54a35027f295629097ad25fe293204317678c6c14", func := "siskin/siskinlaw09.NeedChecks", spec := "needChecks", unfollowed := true, recurses := true, apart := false }
def NeedChecksSaid : Prop := needChecksRow.holds Try.pinned (OpenSpec.ofChange needChecksSpec)

/-- ITS FALSE NEIGHBOUR: 'it returns false'. Refute it at one input. -/
def needChecksWrong : ChangeSpec := { name := "needChecks", fn := fun _ => fun
  | [d1, d2] => { results := [.lit (.bool false)], args := [d1, d2] }
  | _ => none }
def NeedChecksWrongFalsely : Prop := needChecksRow.holds Try.pinned (OpenSpec.ofChange needChecksWrong)

/-- 'siskinlaw09.NeedTells': WHATEVER THE INPUT: true; the input reads as it did. -/
def needTellsSpec : ChangeSpec := { name := "needTells", fn := fun _ => fun
  | [d1, d2] => { results := [.lit (.bool true)], args := [d1, d2] }
  | _ => none }
def needTellsRow : OpenClaim := { program := "ytjhehncpfcgnhaa", sum := "5d833f3eaf3c8040350d30d54a35027f295629097ad25fe293204317678c6c14", func := "siskin/siskinlaw09.NeedTells", spec := "needTells", unfollowed := true, recurses := true, apart := false }
def NeedTellsSaid : Prop := needTellsRow.holds Try.pinned (OpenSpec.ofChange needTellsSpec)

/-- ITS FALSE NEIGHBOUR: 'it returns false'. Refute it at one input. -/
def needTellsWrong : ChangeSpec := { name := "needTells", fn := fun _ => fun
  | [d1, d2] => { results := [.lit (.bool false)], args := [d1, d2] }
  | _ => none }
def NeedTellsWrongFalsely : Prop := needTellsRow.holds Try.pinned (OpenSpec.ofChange needTellsWrong)

/-- 'siskinlaw09.NeedJoins': WHATEVER THE INPUT: true; the input reads as it did. -/
def needJoinsSpec : ChangeSpec := { name := "needJoins", fn := fun _ => fun
  | [d1, d2] => { results := [.lit (.bool true)], args := [d1, d2] }
  | _ => none }
def needJoinsRow : OpenClaim := { program := "ytjhehncpfcgnhaa", sum := "5d833f3eaf3c8040350d30d54a35027f295629097ad25fe293204317678c6c14", func := "siskin/siskinlaw09.NeedJoins", spec := "needJoins", unfollowed := true, recurses := true, apart := false }
def NeedJoinsSaid : Prop := needJoinsRow.holds Try.pinned (OpenSpec.ofChange needJoinsSpec)

/-- ITS FALSE NEIGHBOUR: 'it returns false'. Refute it at one input. -/
def needJoinsWrong : ChangeSpec := { name := "needJoins", fn := fun _ => fun
  | [d1, d2] => { results := [.lit (.bool false)], args := [d1, d2] }
  | _ => none }
def NeedJoinsWrongFalsely : Prop := needJoinsRow.holds Try.pinned (OpenSpec.ofChange needJoinsWrong)

/-- 'siskinlaw09.NeedParts': WHATEVER THE INPUT: true; the input reads as it did. -/
def needPartsSpec : ChangeSpec := { name := "needParts", fn := fun _ => fun
  | [d1, d2, d3] => { results := [.lit (.bool true)], args := [d1, d2, d3] }
  | _ => none }
def needPartsRow : OpenClaim := { program := "ytjhehncpfcgnhaa", sum := "5d833f3eaf3c8040350d30d54a35027f295629097ad25fe293204317678c6c14", func := "siskin/siskinlaw09.NeedParts", spec := "needParts", unfollowed := true, recurses := true, apart := false }
def NeedPartsSaid : Prop := needPartsRow.holds Try.pinned (OpenSpec.ofChange needPartsSpec)

/-- ITS FALSE NEIGHBOUR: 'it returns false'. Refute it at one input. -/
def needPartsWrong : ChangeSpec := { name := "needParts", fn := fun _ => fun
  | [d1, d2, d3] => { results := [.lit (.bool false)], args := [d1, d2, d3] }
  | _ => none }
def NeedPartsWrongFalsely : Prop := needPartsRow.holds Try.pinned (OpenSpec.ofChange needPartsWrong)

/- THE SECOND FORM. 'bulk': how many values and letters a reading holds, each counted each time it is reached (what is shared counts as often as it is met; a slice's spare places count too). A statement '..UptoSaid' is the law's where the arguments, and the package variables that the reading takes, are together of bulk at most 1048576: NARROWER than '..Said'. Prove '..Said' where nothing that the law and all that it calls make is longer than what came in: it says more and counts as full. Else prove '..UptoSaid'. A law counts once. -/
mutual
def uptoBulk {H : Type} : DataW H → Nat
  | .lit (.string bytes) => bytes.length + 1
  | .lit _ => 1
  | .nil => 1
  | .ptr d => uptoBulk d + 1
  | .slice elems spare => uptoBulkAll elems + uptoBulkAll spare + 1
  | .agg parts => uptoBulkAll parts + 1
  | .iface _ d => uptoBulk d + 1
  | .map entries => uptoBulkEntries entries + 1
  | .held _ => 1
def uptoBulkAll {H : Type} : List (DataW H) → Nat
  | [] => 0
  | d :: r => uptoBulk d + uptoBulkAll r
def uptoBulkEntries {H : Type} : List (Lit × DataW H) → Nat
  | [] => 0
  | x :: r => uptoBulkEntry x + uptoBulkEntries r
def uptoBulkEntry {H : Type} : Lit × DataW H → Nat
  | (.string bytes, d) => bytes.length + uptoBulk d + 1
  | (_, d) => uptoBulk d + 1
 end
def uptoSmall : (H : Type) → List (DataW H) → Bool := fun _ ds => decide (uptoBulkAll ds ≤ 1048576)
def OpenSpec.upto (s : _root_.Go.ChangeSpec) : _root_.Go.OpenSpec := { _root_.Go.OpenSpec.ofChange s with cond := some uptoSmall }

/-- 'siskinlaw10.ReadNeeds', WHERE WHAT IT READS IS OF BULK AT MOST 1048576: true; the input reads as it did. -/
def readNeedsUptoRow : OpenClaim := { program := "ytjhehncpfcgnhaa", sum := "5d833f3eaf3c8040350d30d54a35027f295629097ad25fe293204317678c6c14", func := "siskin/siskinlaw10.ReadNeeds", spec := "readNeeds", unfollowed := true, recurses := true, apart := false, narrowed := true }
def ReadNeedsUptoSaid : Prop := readNeedsUptoRow.holds Try.pinned (OpenSpec.upto readNeedsSpec)

/-- 'siskinlaw10.ReadBlanks', WHERE WHAT IT READS IS OF BULK AT MOST 1048576: true; the input reads as it did. -/
def readBlanksUptoRow : OpenClaim := { program := "ytjhehncpfcgnhaa", sum := "5d833f3eaf3c8040350d30d54a35027f295629097ad25fe293204317678c6c14", func := "siskin/siskinlaw10.ReadBlanks", spec := "readBlanks", unfollowed := true, recurses := true, apart := false, narrowed := true }
def ReadBlanksUptoSaid : Prop := readBlanksUptoRow.holds Try.pinned (OpenSpec.upto readBlanksSpec)

/-- 'siskinlaw11.ShowTexts', WHERE WHAT IT READS IS OF BULK AT MOST 1048576: true; the input reads as it did. -/
def showTextsUptoRow : OpenClaim := { program := "ytjhehncpfcgnhaa", sum := "5d833f3eaf3c8040350d30d54a35027f295629097ad25fe293204317678c6c14", func := "siskin/siskinlaw11.ShowTexts", spec := "showTexts", inPlace := ["internal/abi.NoEscape"], unfollowed := true, recurses := true, apart := false, narrowed := true }
def ShowTextsUptoSaid : Prop := showTextsUptoRow.holds Try.pinned (OpenSpec.upto showTextsSpec)

/-- 'siskinlaw11.ShowBack', WHERE WHAT IT READS IS OF BULK AT MOST 1048576: true; the input reads as it did. -/
def showBackUptoRow : OpenClaim := { program := "ytjhehncpfcgnhaa", sum := "5d833f3eaf3c8040350d30d54a35027f295629097ad25fe293204317678c6c14", func := "siskin/siskinlaw11.ShowBack", spec := "showBack", unfollowed := true, recurses := true, apart := false, narrowed := true }
def ShowBackUptoSaid : Prop := showBackUptoRow.holds Try.pinned (OpenSpec.upto showBackSpec)

/-- 'siskinlaw08.LexWords', WHERE WHAT IT READS IS OF BULK AT MOST 1048576: true; the input reads as it did. -/
def lexWordsUptoRow : OpenClaim := { program := "ytjhehncpfcgnhaa", sum := "5d833f3eaf3c8040350d30d54a35027f295629097ad25fe293204317678c6c14", func := "siskin/siskinlaw08.LexWords", spec := "lexWords", apart := false, narrowed := true }
def LexWordsUptoSaid : Prop := lexWordsUptoRow.holds Try.pinned (OpenSpec.upto lexWordsSpec)

/-- 'siskinlaw08.LexBack', WHERE WHAT IT READS IS OF BULK AT MOST 1048576: true; the input reads as it did. -/
def lexBackUptoRow : OpenClaim := { program := "ytjhehncpfcgnhaa", sum := "5d833f3eaf3c8040350d30d54a35027f295629097ad25fe293204317678c6c14", func := "siskin/siskinlaw08.LexBack", spec := "lexBack", inPlace := ["internal/abi.NoEscape"], apart := false, narrowed := true }
def LexBackUptoSaid : Prop := lexBackUptoRow.holds Try.pinned (OpenSpec.upto lexBackSpec)

/-- 'siskinlaw04.GlyphNames', WHERE WHAT IT READS IS OF BULK AT MOST 1048576: true; the input reads as it did. -/
def glyphNamesUptoRow : OpenClaim := { program := "ytjhehncpfcgnhaa", sum := "5d833f3eaf3c8040350d30d54a35027f295629097ad25fe293204317678c6c14", func := "siskin/siskinlaw04.GlyphNames", spec := "glyphNames", apart := false, narrowed := true }
def GlyphNamesUptoSaid : Prop := glyphNamesUptoRow.holds Try.pinned (OpenSpec.upto glyphNamesSpec)

/-- 'siskinlaw05.NamesSets', WHERE WHAT IT READS IS OF BULK AT MOST 1048576: true; the input reads as it did. -/
def namesSetsUptoRow : OpenClaim := { program := "ytjhehncpfcgnhaa", sum := "5d833f3eaf3c8040350d30d54a35027f295629097ad25fe293204317678c6c14", func := "siskin/siskinlaw05.NamesSets", spec := "namesSets", unfollowed := true, recurses := true, apart := false, narrowed := true }
def NamesSetsUptoSaid : Prop := namesSetsUptoRow.holds Try.pinned (OpenSpec.upto namesSetsSpec)

/-- 'siskinlaw09.NeedChecks', WHERE WHAT IT READS IS OF BULK AT MOST 1048576: true; the input reads as it did. -/
def needChecksUptoRow : OpenClaim := { program := "ytjhehncpfcgnhaa", sum := "5d833f3eaf3c8040350d30d54a35027f295629097ad25fe293204317678c6c14", func := "siskin/siskinlaw09.NeedChecks", spec := "needChecks", unfollowed := true, recurses := true, apart := false, narrowed := true }
def NeedChecksUptoSaid : Prop := needChecksUptoRow.holds Try.pinned (OpenSpec.upto needChecksSpec)

/-- 'siskinlaw09.NeedTells', WHERE WHAT IT READS IS OF BULK AT MOST 1048576: true; the input reads as it did. -/
def needTellsUptoRow : OpenClaim := { program := "ytjhehncpfcgnhaa", sum := "5d833f3eaf3c8040350d30d54a35027f295629097ad25fe293204317678c6c14", func := "siskin/siskinlaw09.NeedTells", spec := "needTells", unfollowed := true, recurses := true, apart := false, narrowed := true }
def NeedTellsUptoSaid : Prop := needTellsUptoRow.holds Try.pinned (OpenSpec.upto needTellsSpec)

/-- 'siskinlaw09.NeedJoins', WHERE WHAT IT READS IS OF BULK AT MOST 1048576: true; the input reads as it did. -/
def needJoinsUptoRow : OpenClaim := { program := "ytjhehncpfcgnhaa", sum := "5d833f3eaf3c8040350d30d54a35027f295629097ad25fe293204317678c6c14", func := "siskin/siskinlaw09.NeedJoins", spec := "needJoins", unfollowed := true, recurses := true, apart := false, narrowed := true }
def NeedJoinsUptoSaid : Prop := needJoinsUptoRow.holds Try.pinned (OpenSpec.upto needJoinsSpec)

/-- 'siskinlaw09.NeedParts', WHERE WHAT IT READS IS OF BULK AT MOST 1048576: true; the input reads as it did. -/
def needPartsUptoRow : OpenClaim := { program := "ytjhehncpfcgnhaa", sum := "5d833f3eaf3c8040350d30d54a35027f295629097ad25fe293204317678c6c14", func := "siskin/siskinlaw09.NeedParts", spec := "needParts", unfollowed := true, recurses := true, apart := false, narrowed := true }
def NeedPartsUptoSaid : Prop := needPartsUptoRow.holds Try.pinned (OpenSpec.upto needPartsSpec)

end Rows
end Go.Proofs.Ytjhehncpfcgnhaa
