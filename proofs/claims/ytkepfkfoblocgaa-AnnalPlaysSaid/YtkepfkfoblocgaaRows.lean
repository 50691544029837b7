/-
  No cell of these rows narrows 'for every input' (looked for: loops, veiled, ifaces, maps, wideKeys, modest, calm, conditions, laid).
  DERIVED. THE GIVEN ROWS OF THIS SEAT. 11 by the template 'for every input the law returns true; each argument reads behind the call as it read before'; 0 by the template 'total and deterministic' (their statements: YtkepfkfoblocgaaTotals.lean).
  GIVEN WITH THE SEED: the statements are not yours to turn. If you find one false, say at which input.
  Laid BY PROGRAM, IN A SANDBOX (cutbox-rows.mjs): the forced cells as the released guide's own fill.sh prints them over the translation 69fc9946c37801c3… (all of the seat's roots in one cut). By AI agents, Wed Nov 11 2026. No macro, syntax, notation, axiom, sorry.
-/
import Derived.Test.YtkepfkfoblocgaaChecked
import GoSem.Claim
import GoSem.ClaimJoined
import GoSem.ClaimMapViews
import Derived.JoinedTies
import Derived.KernelRfl
namespace Go.Proofs.Ytkepfkfoblocgaa
/- THE CELL 'sum', in the pinned program and in every row, IS THE sha256 OF THE DUMP (.gsa) THAT YtkepfkfoblocgaaProg.lean LOADS. Nothing in Lean hashes anything: it is a label: what it is worth is what the hold of that sum in a sandbox is worth. -/
noncomputable def Try.pinned : Pinned := { name := "ytkepfkfoblocgaa", sum := "69fc9946c37801c37107b20288d87b8f82bcac893327e33c9097567b56cb4f04", checked := Try.checked }
namespace Rows
def none {H : Type} : Left H := { results := [], args := [] }

/-- 'siskinlaw16.DiskPlays': WHATEVER THE INPUT: true; the input reads as it did. -/
def diskPlaysSpec : ChangeSpec := { name := "diskPlays", fn := fun _ => fun
  | [d1, d2] => { results := [.lit (.bool true)], args := [d1, d2] }
  | _ => none }
def diskPlaysRow : OpenClaim := { program := "ytkepfkfoblocgaa", sum := "69fc9946c37801c37107b20288d87b8f82bcac893327e33c9097567b56cb4f04", func := "siskin/siskinlaw16.DiskPlays", spec := "diskPlays", apart := false }
def DiskPlaysSaid : Prop := diskPlaysRow.holds Try.pinned (OpenSpec.ofChange diskPlaysSpec)

/-- ITS FALSE NEIGHBOUR: 'it returns false'. Refute it at one input. -/
def diskPlaysWrong : ChangeSpec := { name := "diskPlays", fn := fun _ => fun
  | [d1, d2] => { results := [.lit (.bool false)], args := [d1, d2] }
  | _ => none }
def DiskPlaysWrongFalsely : Prop := diskPlaysRow.holds Try.pinned (OpenSpec.ofChange diskPlaysWrong)

/-- 'siskinlaw17.RecBytes': WHATEVER THE INPUT: true; the input reads as it did. -/
def recBytesSpec : ChangeSpec := { name := "recBytes", fn := fun _ => fun
  | [d1, d2] => { results := [.lit (.bool true)], args := [d1, d2] }
  | _ => none }
def recBytesRow : OpenClaim := { program := "ytkepfkfoblocgaa", sum := "69fc9946c37801c37107b20288d87b8f82bcac893327e33c9097567b56cb4f04", func := "siskin/siskinlaw17.RecBytes", spec := "recBytes", apart := false }
def RecBytesSaid : Prop := recBytesRow.holds Try.pinned (OpenSpec.ofChange recBytesSpec)

/-- ITS FALSE NEIGHBOUR: 'it returns false'. Refute it at one input. -/
def recBytesWrong : ChangeSpec := { name := "recBytes", fn := fun _ => fun
  | [d1, d2] => { results := [.lit (.bool false)], args := [d1, d2] }
  | _ => none }
def RecBytesWrongFalsely : Prop := recBytesRow.holds Try.pinned (OpenSpec.ofChange recBytesWrong)

/-- 'siskinlaw17.RecParses': WHATEVER THE INPUT: true; the input reads as it did. -/
def recParsesSpec : ChangeSpec := { name := "recParses", fn := fun _ => fun
  | [d] => { results := [.lit (.bool true)], args := [d] }
  | _ => none }
def recParsesRow : OpenClaim := { program := "ytkepfkfoblocgaa", sum := "69fc9946c37801c37107b20288d87b8f82bcac893327e33c9097567b56cb4f04", func := "siskin/siskinlaw17.RecParses", spec := "recParses", apart := false }
def RecParsesSaid : Prop := recParsesRow.holds Try.pinned (OpenSpec.ofChange recParsesSpec)

/-- ITS FALSE NEIGHBOUR: 'it returns false'. Refute it at one input. -/
def recParsesWrong : ChangeSpec := { name := "recParses", fn := fun _ => fun
  | [d] => { results := [.lit (.bool false)], args := [d] }
  | _ => none }
def RecParsesWrongFalsely : Prop := recParsesRow.holds Try.pinned (OpenSpec.ofChange recParsesWrong)

/-- 'siskinlaw18.ScanFinds': WHATEVER THE INPUT: true; the input reads as it did. -/
def scanFindsSpec : ChangeSpec := { name := "scanFinds", fn := fun _ => fun
  | [d1, d2] => { results := [.lit (.bool true)], args := [d1, d2] }
  | _ => none }
def scanFindsRow : OpenClaim := { program := "ytkepfkfoblocgaa", sum := "69fc9946c37801c37107b20288d87b8f82bcac893327e33c9097567b56cb4f04", func := "siskin/siskinlaw18.ScanFinds", spec := "scanFinds", apart := false }
def ScanFindsSaid : Prop := scanFindsRow.holds Try.pinned (OpenSpec.ofChange scanFindsSpec)

/-- ITS FALSE NEIGHBOUR: 'it returns false'. Refute it at one input. -/
def scanFindsWrong : ChangeSpec := { name := "scanFinds", fn := fun _ => fun
  | [d1, d2] => { results := [.lit (.bool false)], args := [d1, d2] }
  | _ => none }
def ScanFindsWrongFalsely : Prop := scanFindsRow.holds Try.pinned (OpenSpec.ofChange scanFindsWrong)

/-- 'siskinlaw19.AnnalPlays': WHATEVER THE INPUT: true; the input reads as it did. -/
def annalPlaysSpec : ChangeSpec := { name := "annalPlays", fn := fun _ => fun
  | [d1, d2] => { results := [.lit (.bool true)], args := [d1, d2] }
  | _ => none }
def annalPlaysRow : OpenClaim := { program := "ytkepfkfoblocgaa", sum := "69fc9946c37801c37107b20288d87b8f82bcac893327e33c9097567b56cb4f04", func := "siskin/siskinlaw19.AnnalPlays", spec := "annalPlays", apart := false }
def AnnalPlaysSaid : Prop := annalPlaysRow.holds Try.pinned (OpenSpec.ofChange annalPlaysSpec)

/-- ITS FALSE NEIGHBOUR: 'it returns false'. Refute it at one input. -/
def annalPlaysWrong : ChangeSpec := { name := "annalPlays", fn := fun _ => fun
  | [d1, d2] => { results := [.lit (.bool false)], args := [d1, d2] }
  | _ => none }
def AnnalPlaysWrongFalsely : Prop := annalPlaysRow.holds Try.pinned (OpenSpec.ofChange annalPlaysWrong)

/-- 'siskinlaw19.AnnalStays': WHATEVER THE INPUT: true; the input reads as it did. -/
def annalStaysSpec : ChangeSpec := { name := "annalStays", fn := fun _ => fun
  | [d1, d2] => { results := [.lit (.bool true)], args := [d1, d2] }
  | _ => none }
def annalStaysRow : OpenClaim := { program := "ytkepfkfoblocgaa", sum := "69fc9946c37801c37107b20288d87b8f82bcac893327e33c9097567b56cb4f04", func := "siskin/siskinlaw19.AnnalStays", spec := "annalStays", apart := false }
def AnnalStaysSaid : Prop := annalStaysRow.holds Try.pinned (OpenSpec.ofChange annalStaysSpec)

/-- ITS FALSE NEIGHBOUR: 'it returns false'. Refute it at one input. -/
def annalStaysWrong : ChangeSpec := { name := "annalStays", fn := fun _ => fun
  | [d1, d2] => { results := [.lit (.bool false)], args := [d1, d2] }
  | _ => none }
def AnnalStaysWrongFalsely : Prop := annalStaysRow.holds Try.pinned (OpenSpec.ofChange annalStaysWrong)

/-- 'siskinlaw19.AnnalAgain': WHATEVER THE INPUT: true; the input reads as it did. -/
def annalAgainSpec : ChangeSpec := { name := "annalAgain", fn := fun _ => fun
  | [d1, d2] => { results := [.lit (.bool true)], args := [d1, d2] }
  | _ => none }
def annalAgainRow : OpenClaim := { program := "ytkepfkfoblocgaa", sum := "69fc9946c37801c37107b20288d87b8f82bcac893327e33c9097567b56cb4f04", func := "siskin/siskinlaw19.AnnalAgain", spec := "annalAgain", apart := false }
def AnnalAgainSaid : Prop := annalAgainRow.holds Try.pinned (OpenSpec.ofChange annalAgainSpec)

/-- ITS FALSE NEIGHBOUR: 'it returns false'. Refute it at one input. -/
def annalAgainWrong : ChangeSpec := { name := "annalAgain", fn := fun _ => fun
  | [d1, d2] => { results := [.lit (.bool false)], args := [d1, d2] }
  | _ => none }
def AnnalAgainWrongFalsely : Prop := annalAgainRow.holds Try.pinned (OpenSpec.ofChange annalAgainWrong)

/-- 'siskinlaw20.BookTells': WHATEVER THE INPUT: true; the input reads as it did. -/
def bookTellsSpec : ChangeSpec := { name := "bookTells", fn := fun _ => fun
  | [d1, d2, d3] => { results := [.lit (.bool true)], args := [d1, d2, d3] }
  | _ => none }
def bookTellsRow : OpenClaim := { program := "ytkepfkfoblocgaa", sum := "69fc9946c37801c37107b20288d87b8f82bcac893327e33c9097567b56cb4f04", func := "siskin/siskinlaw20.BookTells", spec := "bookTells", unfollowed := true, recurses := true, apart := false }
def BookTellsSaid : Prop := bookTellsRow.holds Try.pinned (OpenSpec.ofChange bookTellsSpec)

/-- ITS FALSE NEIGHBOUR: 'it returns false'. Refute it at one input. -/
def bookTellsWrong : ChangeSpec := { name := "bookTells", fn := fun _ => fun
  | [d1, d2, d3] => { results := [.lit (.bool false)], args := [d1, d2, d3] }
  | _ => none }
def BookTellsWrongFalsely : Prop := bookTellsRow.holds Try.pinned (OpenSpec.ofChange bookTellsWrong)

/-- 'siskinlaw20.BookOnce': WHATEVER THE INPUT: true; the input reads as it did. -/
def bookOnceSpec : ChangeSpec := { name := "bookOnce", fn := fun _ => fun
  | [d] => { results := [.lit (.bool true)], args := [d] }
  | _ => none }
def bookOnceRow : OpenClaim := { program := "ytkepfkfoblocgaa", sum := "69fc9946c37801c37107b20288d87b8f82bcac893327e33c9097567b56cb4f04", func := "siskin/siskinlaw20.BookOnce", spec := "bookOnce", unfollowed := true, recurses := true, apart := false }
def BookOnceSaid : Prop := bookOnceRow.holds Try.pinned (OpenSpec.ofChange bookOnceSpec)

/-- ITS FALSE NEIGHBOUR: 'it returns false'. Refute it at one input. -/
def bookOnceWrong : ChangeSpec := { name := "bookOnce", fn := fun _ => fun
  | [d] => { results := [.lit (.bool false)], args := [d] }
  | _ => none }
def BookOnceWrongFalsely : Prop := bookOnceRow.holds Try.pinned (OpenSpec.ofChange bookOnceWrong)

/-- 'siskinlaw21.LedgerRoom': WHATEVER THE INPUT: true; the input reads as it did. -/
def ledgerRoomSpec : ChangeSpec := { name := "ledgerRoom", fn := fun _ => fun
  | [d1, d2] => { results := [.lit (.bool true)], args := [d1, d2] }
  | _ => none }
def ledgerRoomRow : OpenClaim := { program := "ytkepfkfoblocgaa", sum := "69fc9946c37801c37107b20288d87b8f82bcac893327e33c9097567b56cb4f04", func := "siskin/siskinlaw21.LedgerRoom", spec := "ledgerRoom", unfollowed := true, recurses := true, apart := false }
def LedgerRoomSaid : Prop := ledgerRoomRow.holds Try.pinned (OpenSpec.ofChange ledgerRoomSpec)

/-- ITS FALSE NEIGHBOUR: 'it returns false'. Refute it at one input. -/
def ledgerRoomWrong : ChangeSpec := { name := "ledgerRoom", fn := fun _ => fun
  | [d1, d2] => { results := [.lit (.bool false)], args := [d1, d2] }
  | _ => none }
def LedgerRoomWrongFalsely : Prop := ledgerRoomRow.holds Try.pinned (OpenSpec.ofChange ledgerRoomWrong)

/-- 'siskinlaw21.LedgerCut': WHATEVER THE INPUT: true; the input reads as it did. -/
def ledgerCutSpec : ChangeSpec := { name := "ledgerCut", fn := fun _ => fun
  | [d1, d2] => { results := [.lit (.bool true)], args := [d1, d2] }
  | _ => none }
def ledgerCutRow : OpenClaim := { program := "ytkepfkfoblocgaa", sum := "69fc9946c37801c37107b20288d87b8f82bcac893327e33c9097567b56cb4f04", func := "siskin/siskinlaw21.LedgerCut", spec := "ledgerCut", unfollowed := true, recurses := true, apart := false }
def LedgerCutSaid : Prop := ledgerCutRow.holds Try.pinned (OpenSpec.ofChange ledgerCutSpec)

/-- ITS FALSE NEIGHBOUR: 'it returns false'. Refute it at one input. -/
def ledgerCutWrong : ChangeSpec := { name := "ledgerCut", fn := fun _ => fun
  | [d1, d2] => { results := [.lit (.bool false)], args := [d1, d2] }
  | _ => none }
def LedgerCutWrongFalsely : Prop := ledgerCutRow.holds Try.pinned (OpenSpec.ofChange ledgerCutWrong)

/- THE SECOND FORM. 'bulk': how many values and letters a reading holds, each counted each time it is reached (what is shared counts as often as it is met; a slice's spare places count too). A statement '..UptoSaid' is the law's where the arguments, and the package variables that the reading takes, are together of bulk at most 1048576: NARROWER than '..Said'. Prove '..Said' where nothing that the law and all that it calls make is longer than what came in: it says more and counts as full. Else prove '..UptoSaid'. A law counts once. -/
mutual
def uptoBulk {H : Type} : DataW H → Nat
  | .lit (.string bytes) => bytes.length + 1
  | .lit _ => 1
  | .nil => 1
  | .ptr d => uptoBulk d + 1
  | .slice elems spare => uptoBulkAll elems + uptoBulkAll spare + 1
  | .agg parts => uptoBulkAll parts + 1
  | .iface _ d => uptoBulk d + 1
  | .map entries => uptoBulkEntries entries + 1
  | .held _ => 1
def uptoBulkAll {H : Type} : List (DataW H) → Nat
  | [] => 0
  | d :: r => uptoBulk d + uptoBulkAll r
def uptoBulkEntries {H : Type} : List (Lit × DataW H) → Nat
  | [] => 0
  | x :: r => uptoBulkEntry x + uptoBulkEntries r
def uptoBulkEntry {H : Type} : Lit × DataW H → Nat
  | (.string bytes, d) => bytes.length + uptoBulk d + 1
  | (_, d) => uptoBulk d + 1
 end
def uptoSmall : (H : Type) → List (DataW H) → Bool := fun _ ds => decide (uptoBulkAll ds ≤ 1048576)
def OpenSpec.upto (s : _root_.Go.ChangeSpec) : _root_.Go.OpenSpec := { _root_.Go.OpenSpec.ofChange s with cond := some uptoSmall }

/-- 'siskinlaw16.DiskPlays', WHERE WHAT IT READS IS OF BULK AT MOST 1048576: true; the input reads as it did. -/
def diskPlaysUptoRow : OpenClaim := { program := "ytkepfkfoblocgaa", sum := "69fc9946c37801c37107b20288d87b8f82bcac893327e33c9097567b56cb4f04", func := "siskin/siskinlaw16.DiskPlays", spec := "diskPlays", apart := false, narrowed := true }
def DiskPlaysUptoSaid : Prop := diskPlaysUptoRow.holds Try.pinned (OpenSpec.upto diskPlaysSpec)

/-- 'siskinlaw17.RecBytes', WHERE WHAT IT READS IS OF BULK AT MOST 1048576: true; the input reads as it did. -/
def recBytesUptoRow : OpenClaim := { program := "ytkepfkfoblocgaa", sum := "69fc9946c37801c37107b20288d87b8f82bcac893327e33c9097567b56cb4f04", func := "siskin/siskinlaw17.RecBytes", spec := "recBytes", apart := false, narrowed := true }
def RecBytesUptoSaid : Prop := recBytesUptoRow.holds Try.pinned (OpenSpec.upto recBytesSpec)

/-- 'siskinlaw17.RecParses', WHERE WHAT IT READS IS OF BULK AT MOST 1048576: true; the input reads as it did. -/
def recParsesUptoRow : OpenClaim := { program := "ytkepfkfoblocgaa", sum := "69fc9946c37801c37107b20288d87b8f82bcac893327e33c9097567b56cb4f04", func := "siskin/siskinlaw17.RecParses", spec := "recParses", apart := false, narrowed := true }
def RecParsesUptoSaid : Prop := recParsesUptoRow.holds Try.pinned (OpenSpec.upto recParsesSpec)

/-- 'siskinlaw18.ScanFinds', WHERE WHAT IT READS IS OF BULK AT MOST 1048576: true; the input reads as it did. -/
def scanFindsUptoRow : OpenClaim := { program := "ytkepfkfoblocgaa", sum := "69fc9946c37801c37107b20288d87b8f82bcac893327e33c9097567b56cb4f04", func := "siskin/siskinlaw18.ScanFinds", spec := "scanFinds", apart := false, narrowed := true }
def ScanFindsUptoSaid : Prop := scanFindsUptoRow.holds Try.pinned (OpenSpec.upto scanFindsSpec)

/-- 'siskinlaw19.AnnalPlays', WHERE WHAT IT READS IS OF BULK AT MOST 1048576: true; the input reads as it did. -/
def annalPlaysUptoRow : OpenClaim := { program := "ytkepfkfoblocgaa", sum := "69fc9946c37801c37107b20288d87b8f82bcac893327e33c9097567b56cb4f04", func := "siskin/siskinlaw19.AnnalPlays", spec := "annalPlays", apart := false, narrowed := true }
def AnnalPlaysUptoSaid : Prop := annalPlaysUptoRow.holds Try.pinned (OpenSpec.upto annalPlaysSpec)

/-- 'siskinlaw19.AnnalStays', WHERE WHAT IT READS IS OF BULK AT MOST 1048576: true; the input reads as it did. -/
def annalStaysUptoRow : OpenClaim := { program := "ytkepfkfoblocgaa", sum := "69fc9946c37801c37107b20288d87b8f82bcac893327e33c9097567b56cb4f04", func := "siskin/siskinlaw19.AnnalStays", spec := "annalStays", apart := false, narrowed := true }
def AnnalStaysUptoSaid : Prop := annalStaysUptoRow.holds Try.pinned (OpenSpec.upto annalStaysSpec)

/-- 'siskinlaw19.AnnalAgain', WHERE WHAT IT READS IS OF BULK AT MOST 1048576: true; the input reads as it did. -/
def annalAgainUptoRow : OpenClaim := { program := "ytkepfkfoblocgaa", sum := "69fc9946c37801c37107b20288d87b8f82bcac893327e33c9097567b56cb4f04", func := "siskin/siskinlaw19.AnnalAgain", spec := "annalAgain", apart := false, narrowed := true }
def AnnalAgainUptoSaid : Prop := annalAgainUptoRow.holds Try.pinned (OpenSpec.upto annalAgainSpec)

/-- 'siskinlaw20.BookTells', WHERE WHAT IT READS IS OF BULK AT MOST 1048576: true; the input reads as it did. -/
def bookTellsUptoRow : OpenClaim := { program := "ytkepfkfoblocgaa", sum := "69fc9946c37801c37107b20288d87b8f82bcac893327e33c9097567b56cb4f04", func := "siskin/siskinlaw20.BookTells", spec := "bookTells", unfollowed := true, recurses := true, apart := false, narrowed := true }
def BookTellsUptoSaid : Prop := bookTellsUptoRow.holds Try.pinned (OpenSpec.upto bookTellsSpec)

/-- 'siskinlaw20.BookOnce', WHERE WHAT IT READS IS OF BULK AT MOST 1048576: true; the input reads as it did. -/
def bookOnceUptoRow : OpenClaim := { program := "ytkepfkfoblocgaa", sum := "69fc9946c37801c37107b20288d87b8f82bcac893327e33c9097567b56cb4f04", func := "siskin/siskinlaw20.BookOnce", spec := "bookOnce", unfollowed := true, recurses := true, apart := false, narrowed := true }
def BookOnceUptoSaid : Prop := bookOnceUptoRow.holds Try.pinned (OpenSpec.upto bookOnceSpec)

/-- 'siskinlaw21.LedgerRoom', WHERE WHAT IT READS IS OF BULK AT MOST 1048576: true; the input reads as it did. -/
def ledgerRoomUptoRow : OpenClaim := { program := "ytkepfkfoblocgaa", sum := "69fc9946c37801c37107b20288d87b8f82bcac893327e33c9097567b56cb4f04", func := "siskin/siskinlaw21.LedgerRoom", spec := "ledgerRoom", unfollowed := true, recurses := true, apart := false, narrowed := true }
def LedgerRoomUptoSaid : Prop := ledgerRoomUptoRow.holds Try.pinned (OpenSpec.upto ledgerRoomSpec)

/-- 'siskinlaw21.LedgerCut', WHERE WHAT IT READS IS OF BULK AT MOST 1048576: true; the input reads as it did. -/
def ledgerCutUptoRow : OpenClaim := { program := "ytkepfkfoblocgaa", sum := "69fc9946c37801c37107b20288d87b8f82bcac893327e33c9097567b56cb4f04", func := "siskin/siskinlaw21.LedgerCut", spec := "ledgerCut", unfollowed := true, recurses := true, apart := false, narrowed := true }
def LedgerCutUptoSaid : Prop := ledgerCutUptoRow.holds Try.pinned (OpenSpec.upto ledgerCutSpec)

end Rows
end Go.Proofs.Ytkepfkfoblocgaa
