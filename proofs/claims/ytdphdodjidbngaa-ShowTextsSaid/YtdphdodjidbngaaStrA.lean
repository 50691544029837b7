/- Slices of strings: their cells. -/
import Derived.Test.YtdphdodjidbngaaChecked
import Derived.Test.YtdphdodjidbngaaText
import Derived.Test.YtdphdodjidbngaaRow
import Derived.Deep.Cut
import Derived.Outline
import Derived.Deep.QuietTactic
import Derived.BigQuiet
namespace Go.Proofs.Ytdphdodjidbngaa
open Go.RowKit
set_option linter.unusedVariables false

/-- The cells of texts in a row. -/
def scells (l : List (List UInt8)) : List Value := l.map fun s => .string (str s)
theorem scells_length (l : List (List UInt8)) : (scells l).length = l.length := by simp [scells]
theorem scells_one (l : List (List UInt8)) : ∀ u ∈ scells l, u.oneCell' = true := by
  intro u hu
  simp only [scells, List.mem_map] at hu
  obtain ⟨c, _, rfl⟩ := hu
  rfl
theorem scells_append (l m : List (List UInt8)) : scells (l ++ m) = scells l ++ scells m := by simp [scells]
theorem scells_snoc (l : List (List UInt8)) (x : List UInt8) : scells (l ++ [x]) = scells l ++ [.string (str x)] := by simp [scells]
theorem info_str : (Try.prog.info? 9).map (fun i => (i.zero, i.size, i.bytes)) = some (some (.string ⟨#[]⟩), 1, 16) := by kernel_rfl
theorem str_ne {x y : List UInt8} (h : x ≠ y) : ¬ (str x).toList = (str y).toList := fun h2 => h (by
  rw [ByteArray.toList_eq, ByteArray.toList_eq] at h2
  simpa [str] using h2)

end Go.Proofs.Ytdphdodjidbngaa

