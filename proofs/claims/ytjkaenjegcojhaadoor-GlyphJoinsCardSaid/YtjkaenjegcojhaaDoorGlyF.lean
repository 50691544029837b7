/- Fold, both: contracts. -/
import Derived.Test.YtjkaenjegcojhaaDoorGlyD
import Derived.Deep.QuietTactic
import Derived.BigQuiet
namespace Go.Proofs.YtjkaenjegcojhaaDoor
open Go.RowKit Go.Sort
set_option linter.unusedVariables false
set_option linter.unusedSimpArgs false

def low (b : UInt8) : UInt8 := if 65 ≤ b.toNat ∧ b.toNat ≤ 90 then b + 32 else b
theorem low_cap (b : UInt8) (h : 65 ≤ b.toNat ∧ b.toNat ≤ 90) : ((low b).toNat : Int) = (b.toNat : Int) + 32 := by
  rw [low, if_pos h, UInt8.toNat_add]
  have : (32 : UInt8).toNat = 32 := rfl
  rw [this]
  omega
theorem low_not (b : UInt8) (h : ¬ (65 ≤ b.toNat ∧ b.toNat ≤ 90)) : ((low b).toNat : Int) = (b.toNat : Int) := by rw [low, if_neg h]
theorem take_low (l : List UInt8) (k : Nat) (hk : k < l.length) : (l.take (k + 1)).map low = (l.take k).map low ++ [low (l.getD k 0)] := by
  rw [List.take_add_one, List.getElem?_eq_getElem hk, List.getD_eq_getElem?_getD, List.getElem?_eq_getElem hk, Option.toList_some, List.map_append]
  rfl
theorem convSg {w : World} {a : Option Addr} {n cap : Nat} {l : List UInt8} (h : IsBytes w a n cap l) : (convert 46 9 (.slice a n cap)).run Tryd.prog w = .ok (.string (str l)) w :=
  conv_str (P := Tryd.prog) (src := 46) (dst := 9) Tryd.underlying46 Tryd.underlying5 Tryd.underlying9 h
theorem conv_one (b : UInt8) (x : Int) (hx : ((b.toNat : Nat) : Int) = x) (w : World) : (convert 46 9 (.slice (some ⟨w.heap.size, 0, none⟩) 1 1)).run Tryd.prog (w.alloc (.cells #[.int .u8 x] 5)) = .ok (.string (str [b])) (w.alloc (.cells #[.int .u8 x] 5)) := by
  subst hx
  exact convSg (l := [b]) (Sl.lit w 5 1 1 #[.int .u8 (b.toNat : Int)] rfl (by unfold maxLen; omega))

end Go.Proofs.YtjkaenjegcojhaaDoor
