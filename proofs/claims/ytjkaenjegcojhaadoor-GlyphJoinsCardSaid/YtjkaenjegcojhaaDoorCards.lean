/-
  DERIVED. GIVEN WITH THE SEED: THE CARDS: each row of YtjkaenjegcojhaaDoorRows.lean that lists a variable, with what it lists TIED to the program's text (the seventh form; the later family's looks); each row that meets fmt, with fmt's text TOLD by the authors' own Lean function (tested against real Go, not proved from fmt's source: count such statements apart). THE CARD IS WHAT COUNTS. Prove the row's statement (the work); the ties are given (YtjkaenjegcojhaaDoorTie.lean); close each card by the builder's one call (the guide's Derived/Test/ToyasCard.lean, 'card_holds'). Laid BY PROGRAM, IN A SANDBOX (cutbox-door.mjs). By AI agents, Wed Nov 11 2026. No macro, syntax, notation, axiom, sorry.
-/
import Derived.Test.YtjkaenjegcojhaaDoorRows
import GoSem.ClaimSeven
namespace Go.Proofs.YtjkaenjegcojhaaDoor
namespace Rows

/-- THE TIED CARD OF 'siskinlaw22.MsgBytes'. -/
def msgBytesCard : Claim7 := { stood := { row := msgBytesRow, standIns := [], harness := (true, "8f9d12af4133fd36d007aff90b9d23b20b40d8dd182408bcf643955497330c35"), looks := false }, kinds := [], alts := [], laidByText := true, laidKinds := [.data], laidTests := true, laidLooks := .later }
def MsgBytesCardSaid : Prop := Claim7.holds Tryd.pinned (.plain (OpenSpec.ofChange msgBytesSpec)) msgBytesCard

/-- THE TIED CARD OF 'siskinlaw04.GlyphRunes'. -/
def glyphRunesCard : Claim7 := { stood := { row := glyphRunesRow, standIns := [], harness := (true, "8f9d12af4133fd36d007aff90b9d23b20b40d8dd182408bcf643955497330c35"), looks := false }, kinds := [], alts := [], laidByText := true, laidKinds := [.data, .pinned], laidTests := true, laidLooks := .later }
def GlyphRunesCardSaid : Prop := Claim7.holds Tryd.pinned (.plain (OpenSpec.ofChange glyphRunesSpec)) glyphRunesCard

/-- THE TIED CARD OF 'siskinlaw04.GlyphJoins'. -/
def glyphJoinsCard : Claim7 := { stood := { row := glyphJoinsRow, standIns := [], harness := (true, "8f9d12af4133fd36d007aff90b9d23b20b40d8dd182408bcf643955497330c35"), looks := false }, kinds := [], alts := [], laidByText := true, laidKinds := [.data, .pinned], laidTests := true, laidLooks := .later }
def GlyphJoinsCardSaid : Prop := Claim7.holds Tryd.pinned (.plain (OpenSpec.ofChange glyphJoinsSpec)) glyphJoinsCard

/-- THE SECOND FORM's CARD OF 'siskinlaw22.MsgBytes'. -/
def msgBytesUptoCard : Claim7 := { stood := { row := msgBytesUptoRow, standIns := [], harness := (true, "8f9d12af4133fd36d007aff90b9d23b20b40d8dd182408bcf643955497330c35"), looks := false }, kinds := [], alts := [], laidByText := true, laidKinds := [.data], laidTests := true, laidLooks := .later }
def MsgBytesUptoCardSaid : Prop := Claim7.holds Tryd.pinned (.plain (OpenSpec.upto msgBytesSpec)) msgBytesUptoCard

/-- THE SECOND FORM's CARD OF 'siskinlaw04.GlyphRunes'. -/
def glyphRunesUptoCard : Claim7 := { stood := { row := glyphRunesUptoRow, standIns := [], harness := (true, "8f9d12af4133fd36d007aff90b9d23b20b40d8dd182408bcf643955497330c35"), looks := false }, kinds := [], alts := [], laidByText := true, laidKinds := [.data, .pinned], laidTests := true, laidLooks := .later }
def GlyphRunesUptoCardSaid : Prop := Claim7.holds Tryd.pinned (.plain (OpenSpec.upto glyphRunesSpec)) glyphRunesUptoCard

/-- THE SECOND FORM's CARD OF 'siskinlaw04.GlyphJoins'. -/
def glyphJoinsUptoCard : Claim7 := { stood := { row := glyphJoinsUptoRow, standIns := [], harness := (true, "8f9d12af4133fd36d007aff90b9d23b20b40d8dd182408bcf643955497330c35"), looks := false }, kinds := [], alts := [], laidByText := true, laidKinds := [.data, .pinned], laidTests := true, laidLooks := .later }
def GlyphJoinsUptoCardSaid : Prop := Claim7.holds Tryd.pinned (.plain (OpenSpec.upto glyphJoinsSpec)) glyphJoinsUptoCard
end Rows
end Go.Proofs.YtjkaenjegcojhaaDoor
