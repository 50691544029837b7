/-
  DERIVED. GIVEN WITH THE SEED: THE CARDS: each row of YtfaglemadpobeaaDoorRows.lean that lists a variable, with what it lists TIED to the program's text (the seventh form; the later family's looks); each row that meets fmt, with fmt's text TOLD by the authors' own Lean function (tested against real Go, not proved from fmt's source: count such statements apart). THE CARD IS WHAT COUNTS. Prove the row's statement (the work); the ties are given (YtfaglemadpobeaaDoorTie.lean); close each card by the builder's one call (the guide's Derived/Test/ToyasCard.lean, 'card_holds'). Laid BY PROGRAM, IN A SANDBOX (cutbox-door.mjs). By AI agents, Wed Nov 11 2026. No macro, syntax, notation, axiom, sorry.
-/
import Derived.Test.YtfaglemadpobeaaDoorRows
import GoSem.ClaimSeven
namespace Go.Proofs.YtfaglemadpobeaaDoor
namespace Rows

/-- THE TIED CARD OF 'siskinlaw12.AdmitWorkers'. -/
def admitWorkersCard : Claim7 := { stood := { row := admitWorkersRow, standIns := [], harness := (true, "84b7cf55ab80e6fdd52feea8cceabd2ffd88990a16e731a057e0a0070375e227"), looks := true }, kinds := [], alts := [], laidByText := true, laidKinds := [.data], laidTests := true, laidLooks := .later }
def AdmitWorkersCardSaid : Prop := Claim7.holds Tryd.pinned (.plain (OpenSpec.ofChange admitWorkersSpec)) admitWorkersCard

/-- THE TIED CARD OF 'siskinlaw12.AdmitMore'. -/
def admitMoreCard : Claim7 := { stood := { row := admitMoreRow, standIns := [], harness := (true, "84b7cf55ab80e6fdd52feea8cceabd2ffd88990a16e731a057e0a0070375e227"), looks := true }, kinds := [], alts := [], laidByText := true, laidKinds := [.data], laidTests := true, laidLooks := .later }
def AdmitMoreCardSaid : Prop := Claim7.holds Tryd.pinned (.plain (OpenSpec.ofChange admitMoreSpec)) admitMoreCard

/-- THE SECOND FORM's CARD OF 'siskinlaw12.AdmitWorkers'. -/
def admitWorkersUptoCard : Claim7 := { stood := { row := admitWorkersUptoRow, standIns := [], harness := (true, "84b7cf55ab80e6fdd52feea8cceabd2ffd88990a16e731a057e0a0070375e227"), looks := true }, kinds := [], alts := [], laidByText := true, laidKinds := [.data], laidTests := true, laidLooks := .later }
def AdmitWorkersUptoCardSaid : Prop := Claim7.holds Tryd.pinned (.plain (OpenSpec.upto admitWorkersSpec)) admitWorkersUptoCard

/-- THE SECOND FORM's CARD OF 'siskinlaw12.AdmitMore'. -/
def admitMoreUptoCard : Claim7 := { stood := { row := admitMoreUptoRow, standIns := [], harness := (true, "84b7cf55ab80e6fdd52feea8cceabd2ffd88990a16e731a057e0a0070375e227"), looks := true }, kinds := [], alts := [], laidByText := true, laidKinds := [.data], laidTests := true, laidLooks := .later }
def AdmitMoreUptoCardSaid : Prop := Claim7.holds Tryd.pinned (.plain (OpenSpec.upto admitMoreSpec)) admitMoreUptoCard
end Rows
end Go.Proofs.YtfaglemadpobeaaDoor
