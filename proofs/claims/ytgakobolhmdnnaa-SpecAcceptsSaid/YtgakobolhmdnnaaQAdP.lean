/- Admit: Index; Row and its closure; Implies: contracts; the page's example. -/
import Derived.Test.YtgakobolhmdnnaaQAdB
namespace Go.Proofs.Ytgakobolhmdnnaa
open Go.RowKit Go.Sort
set_option linter.unusedVariables false
set_option linter.unusedSimpArgs false

def ixF (l : List Int) (x : Int) : Int := if x ∈ l then (l.idxOf x : Nat) else -1
theorem idx_first : ∀ (l : List Int) (x : Int) (k : Nat) (hk : k < l.length), (∀ j (hj : j < l.length), j < k → l[j] ≠ x) → l[k] = x → l.idxOf x = k
  | [], x, k, hk, _, _ => absurd hk (by simp)
  | y :: l, x, 0, hk, _, h => by
    simp only [List.getElem_cons_zero] at h
    subst h
    simp
  | y :: l, x, k + 1, hk, hn, h => by
    have h0 : y ≠ x := hn 0 (by simp) (by omega)
    have h1 := idx_first l x k (by simpa using hk) (fun j hj hjk => by
      have := hn (j + 1) (by simpa using hj) (by omega)
      simpa using this) (by simpa using h)
    have hb : (y == x) = false := by simpa using h0
    rw [List.idxOf_cons, hb, h1]
    rfl
set_option maxRecDepth 20000 in
set_option maxHeartbeats 2000000 in
theorem index_any (A : Option Addr) (cap : Nat) (l : List Int) (x : Int) (W : World) (h : Sl W 1 A l.length cap (icells .i64 l)) (hl : l.length ≤ 1000) :
    Calls Try.prog 116 #[.slice A l.length cap, .int .i64 x] W fun e w' => e = .returned (.int .i64 (ixF l x)) ∧ W = w' := by
  have HS := hid h
  have hl2 : (l.length : Int) ≤ 1000 := by omega
  clear h
  go_enter Try.func116, Try.ntmps116
  go_wp2_with fail
  go_loopw [5, 8] (fun _ i wr => ∃ k : Nat, k ≤ l.length ∧ i = .int .i64 (k : Int) ∧ Hid (∀ j (hj : j < l.length), j < k → l[j] ≠ x) ∧ W = wr) (fun _ i _ => l.length - (intOf i).toNat)
  case atStart => exact ⟨0, by omega, rfl, fun j _ h => absurd h (by omega), rfl⟩
  case round =>
    obtain ⟨k, hk, rfl, HN, rfl⟩ := hrel
    by_cases hlt : k < l.length
    · have hlt2 : (k : Int) < (l.length : Int) := by omega
      obtain ⟨b, off, rfl⟩ := HS.out.addr (by rw [icells_length]; omega)
      have hc := HS.out.cell k hlt
      have hg9 : l.getD k 0 = l[k] := by rw [List.getD_eq_getElem?_getD, List.getElem?_eq_getElem hlt]; rfl
      rw [hg9] at hc
      clear hg9
      by_cases he : l[k] = x
      · have HI : Hid (ixF l x = (k : Int)) := hid (by
          unfold ixF
          rw [if_pos (by rw [← he]; exact List.getElem_mem hlt), idx_first l x k hlt HN.out he])
        rw [he] at hc
        clear he
        go_wp2
        go_ret
        exact ⟨by rw [HI.out]; rfl, rfl⟩
      · have HN2 : Hid (∀ j (hj : j < l.length), j < k + 1 → l[j] ≠ x) := hid (fun j hj hjk => by
          by_cases hjk2 : j < k
          · exact HN.out j hj hjk2
          · obtain rfl : j = k := by omega
            exact he)
        have hne : ¬ x = l[k] := fun h => he h.symm
        clear he
        generalize l[k] = y at *
        go_wp2
        go_roundw
        case rel => exact ⟨k + 1, by omega, by go_num, HN2.out, by first | rfl | trivial⟩
        case measure => simp [intOf]; omega
    · have hge : ¬ (k : Int) < (l.length : Int) := by omega
      have HI : Hid (ixF l x = -1) := hid (by
        unfold ixF
        rw [if_neg]
        intro hm
        obtain ⟨j, hj, hjx⟩ := List.getElem_of_mem hm
        exact HN.out j hj (by omega) hjx)
      go_wp2
      go_ret
      exact ⟨by rw [HI.out]; rfl, rfl⟩

def rowsT : List Nat := [12297829382473034410, 14757395258967641292, 17361641481138401520, 18374966859414961920, 18446462603027742720, 18446744069414584320]
def RowsAt (w : World) : Prop := ∀ i : Nat, i < 6 → w.cell? ⟨0, i, none⟩ = some (.int .u64 ((rowsT.getD i 0 : Nat) : Int))
theorem RowsAt.below {w w' : World} (h : RowsAt w) (hb : Below w.heap.size w w') : RowsAt w' := fun i hi => cellb hb (h i hi)
def rowR (attrs : List Int) (x : Int) : Nat := if x ∈ attrs then rowsT.getD (attrs.idxOf x) 0 else 0
theorem rowsT_lt (i : Nat) : rowsT.getD i 0 < 18446744073709551616 := by
  by_cases h : i < 6
  · have : i = 0 ∨ i = 1 ∨ i = 2 ∨ i = 3 ∨ i = 4 ∨ i = 5 := by omega
    rcases this with rfl | rfl | rfl | rfl | rfl | rfl <;> decide
  · rw [List.getD_eq_getElem?_getD, List.getElem?_eq_none (by simp [rowsT]; omega)]
    decide
theorem rowR_lt (attrs : List Int) (x : Int) : rowR attrs x < 18446744073709551616 := by
  unfold rowR
  split
  · exact rowsT_lt _
  · decide
def rowS (l : List (Int × Int)) (attrs : List Int) : Nat := if 6 < attrs.length then 0 else valL (rowR attrs) l
theorem rowS_lt (l : List (Int × Int)) (attrs : List Int) : rowS l attrs < 18446744073709551616 := by
  unfold rowS
  split
  · decide
  · exact valL_lt (rowR_lt attrs) l
/-- Whether a need implies another, in the program's words. -/
def impE (a b : List (Int × Int)) : Int := if chkN a = 0 then (if chkN b = 0 then (if 6 < (elems (askN a ||| askN b)).length then 4 else 0) else 1) else 1
def impB (a b : List (Int × Int)) : Bool := if impE a b = 0 then (rowS a (elems (askN a ||| askN b)) &&& (18446744073709551615 - rowS b (elems (askN a ||| askN b))) == 0) else false
theorem asks_u64 (l : List (Int × Int)) : askN l < 18446744073709551616 := by
  unfold askN
  split
  · split
    · exact asks_lt _
    · decide
  · decide
end Go.Proofs.Ytgakobolhmdnnaa
