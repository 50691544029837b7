/- The document's Bit and Has, as contracts. -/
import Derived.Test.YtdphdodjidbngaaChecked
import Derived.Test.YtdphdodjidbngaaWord
import Derived.Test.YtdphdodjidbngaaRow
import Derived.Deep.Cut
import Derived.Outline
namespace Go.Proofs.Ytdphdodjidbngaa
open Go.RowKit
set_option linter.unusedVariables false
set_option linter.unusedSimpArgs false

def p2 (n : Nat) : Nat := 2 ^ n
theorem p2_lt {n : Nat} (h : n < 64) : p2 n < 18446744073709551616 := two_pow_lt64 h
theorem bitN_p2 {n : Nat} (h : n < 64) : bitN (n : Int) = p2 n := by unfold bitN; rw [if_pos (by omega)]; simp [p2]
end Go.Proofs.Ytdphdodjidbngaa

