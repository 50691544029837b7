/- The table of powers, from what it reads as. -/
import Derived.Lib.LaidU8
import Derived.Test.YtgakobolhmdnnaaGreatDoorQEvS
namespace Go.Proofs.YtgakobolhmdnnaaGreatDoor
open Go.RowKit Go.Sort Go.Shelf
set_option linter.unusedVariables false

theorem pow_of_reads {w : World} (h : Go.Lib.VarReads Tryz.prog w "internal/strconv.uint64pow10" (Go.Lib.tabData .u64 Lib.pow10Tab)) : Pow w := by
  obtain ⟨g, t, cs, fuel, p, h1, h2, h3, h4⟩ := h
  obtain rfl : g = 1 := Option.some.inj (h1.symm.trans gPow)
  have hty : (Tryz.prog.globals[1]?).map (·.type) = some 164 := by kernel_rfl
  obtain rfl : t = 164 := Option.some.inj (h2.symm.trans hty)
  unfold Pow Go.Lib.TabIs
  rw [h3, ← Go.Lib.cells_of_tab (t := 164) (e := 55) (n := 20) Tryz.underlying164 Tryz.underlying55 (by kernel_rfl) (by kernel_rfl) h4]
end Go.Proofs.YtgakobolhmdnnaaGreatDoor
