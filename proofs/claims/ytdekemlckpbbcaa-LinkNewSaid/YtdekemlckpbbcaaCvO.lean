/- one byte as a text. -/
import Derived.Test.YtdekemlckpbbcaaText
import Derived.Test.YtdekemlckpbbcaaRd
import Derived.Test.YtdekemlckpbbcaaRow
import Derived.Test.YtdekemlckpbbcaaStep
import Derived.Test.YtdekemlckpbbcaaStrC
import Derived.Laws.Concat
namespace Go.Proofs.Ytdekemlckpbbcaa
open Go.RowKit
set_option linter.unusedVariables false
set_option linter.unusedSimpArgs false

theorem convSg {w : World} {a : Option Addr} {n cap : Nat} {l : List UInt8} (h : IsBytes w a n cap l) : (convert 138 9 (.slice a n cap)).run Try.prog w = .ok (.string (str l)) w :=
  conv_str (P := Try.prog) (src := 138) (dst := 9) Try.underlying138 Try.underlying5 Try.underlying9 h
theorem conv_one (b : UInt8) (x : Int) (hx : ((b.toNat : Nat) : Int) = x) (w : World) : (convert 138 9 (.slice (some ⟨w.heap.size, 0, none⟩) 1 1)).run Try.prog (w.alloc (.cells #[.int .u8 x] 5)) = .ok (.string (str [b])) (w.alloc (.cells #[.int .u8 x] 5)) := by
  subst hx
  exact convSg (l := [b]) (Sl.lit w 5 1 1 #[.int .u8 (b.toNat : Int)] rfl (by unfold maxLen; omega))
end Go.Proofs.Ytdekemlckpbbcaa
