/- Admit: Index; Row and its closure; Implies: contracts; the page's example. -/
import Derived.Test.YthohedadmfbahaaDoorQAdB
namespace Go.Proofs.YthohedadmfbahaaDoor
open Go.RowKit Go.Sort
set_option linter.unusedVariables false
set_option linter.unusedSimpArgs false

def ixF (l : List Int) (x : Int) : Int := if x ∈ l then (l.idxOf x : Nat) else -1
theorem idx_first : ∀ (l : List Int) (x : Int) (k : Nat) (hk : k < l.length), (∀ j (hj : j < l.length), j < k → l[j] ≠ x) → l[k] = x → l.idxOf x = k
  | [], x, k, hk, _, _ => absurd hk (by simp)
  | y :: l, x, 0, hk, _, h => by
    simp only [List.getElem_cons_zero] at h
    subst h
    simp
  | y :: l, x, k + 1, hk, hn, h => by
    have h0 : y ≠ x := hn 0 (by simp) (by omega)
    have h1 := idx_first l x k (by simpa using hk) (fun j hj hjk => by
      have := hn (j + 1) (by simpa using hj) (by omega)
      simpa using this) (by simpa using h)
    have hb : (y == x) = false := by simpa using h0
    rw [List.idxOf_cons, hb, h1]
    rfl
def rowsT : List Nat := [12297829382473034410, 14757395258967641292, 17361641481138401520, 18374966859414961920, 18446462603027742720, 18446744069414584320]
def RowsAt (w : World) : Prop := ∀ i : Nat, i < 6 → w.cell? ⟨0, i, none⟩ = some (.int .u64 ((rowsT.getD i 0 : Nat) : Int))
theorem RowsAt.below {w w' : World} (h : RowsAt w) (hb : Below w.heap.size w w') : RowsAt w' := fun i hi => cellb hb (h i hi)
def rowR (attrs : List Int) (x : Int) : Nat := if x ∈ attrs then rowsT.getD (attrs.idxOf x) 0 else 0
theorem rowsT_lt (i : Nat) : rowsT.getD i 0 < 18446744073709551616 := by
  by_cases h : i < 6
  · have : i = 0 ∨ i = 1 ∨ i = 2 ∨ i = 3 ∨ i = 4 ∨ i = 5 := by omega
    rcases this with rfl | rfl | rfl | rfl | rfl | rfl <;> decide
  · rw [List.getD_eq_getElem?_getD, List.getElem?_eq_none (by simp [rowsT]; omega)]
    decide
theorem rowR_lt (attrs : List Int) (x : Int) : rowR attrs x < 18446744073709551616 := by
  unfold rowR
  split
  · exact rowsT_lt _
  · decide
def rowS (l : List (Int × Int)) (attrs : List Int) : Nat := if 6 < attrs.length then 0 else valL (rowR attrs) l
theorem rowS_lt (l : List (Int × Int)) (attrs : List Int) : rowS l attrs < 18446744073709551616 := by
  unfold rowS
  split
  · decide
  · exact valL_lt (rowR_lt attrs) l
/-- Whether a need implies another, in the program's words. -/
def impE (a b : List (Int × Int)) : Int := if chkN a = 0 then (if chkN b = 0 then (if 6 < (elems (askN a ||| askN b)).length then 4 else 0) else 1) else 1
def impB (a b : List (Int × Int)) : Bool := if impE a b = 0 then (rowS a (elems (askN a ||| askN b)) &&& (18446744073709551615 - rowS b (elems (askN a ||| askN b))) == 0) else false
theorem asks_u64 (l : List (Int × Int)) : askN l < 18446744073709551616 := by
  unfold askN
  split
  · split
    · exact asks_lt _
    · decide
  · decide
end Go.Proofs.YthohedadmfbahaaDoor
