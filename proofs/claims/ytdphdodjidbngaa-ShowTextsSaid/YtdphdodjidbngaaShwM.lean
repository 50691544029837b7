/- show: the text of a need: mathematics. -/
import Derived.Test.YtdphdodjidbngaaNeeN
import Derived.Test.YtdphdodjidbngaaText
namespace Go.Proofs.Ytdphdodjidbngaa
open Go.RowKit
set_option linter.unusedVariables false
set_option linter.unusedSimpArgs false

/-- In parentheses, if the operator is one of these. -/
def parS (op : Int) (ops : List Int) (s : List UInt8) : List UInt8 := if op ∈ ops then 40 :: (s ++ [41]) else s
/-- The text of a need. -/
def txt (T : List (List UInt8)) : Nt → List UInt8
  | .yes => [42]
  | .attr n => T.getD n.toNat []
  | .not t => 33 :: parS (lastN t).1 [4, 5] (txt T t)
  | .pair op a b => if op = 4 then (parS (lastN a).1 [5] (txt T a) ++ [32, 38, 32]) ++ parS (lastN b).1 [4, 5] (txt T b) else (parS (lastN a).1 [] (txt T a) ++ [32, 124, 32]) ++ parS (lastN b).1 [5] (txt T b)
theorem parS_len (op : Int) (ops : List Int) (s : List UInt8) : (parS op ops s).length ≤ s.length + 2 := by
  unfold parS
  split
  · simp
  · omega
theorem txt_len (T : List (List UInt8)) (h : ∀ s ∈ T, s.length ≤ 100) : ∀ t : Nt, (txt T t).length + 2 ≤ 107 * t.flat.length
  | .yes => by simp [txt, Nt.flat]
  | .attr n => by
    have h9 : (T.getD n.toNat []).length ≤ 100 := by
      rw [List.getD_eq_getElem?_getD]
      rcases Nat.lt_or_ge n.toNat T.length with h1 | h1
      · rw [List.getElem?_eq_getElem h1]
        exact h _ (List.getElem_mem h1)
      · rw [List.getElem?_eq_none h1]
        simp
    simp only [txt, Nt.flat, List.length_singleton]
    omega
  | .not t => by
    have h1 := txt_len T h t
    have h2 := parS_len (lastN t).1 [4, 5] (txt T t)
    simp only [txt, Nt.flat, List.length_append, List.length_singleton, List.length_cons]
    omega
  | .pair op a b => by
    have h1 := txt_len T h a
    have h2 := txt_len T h b
    simp only [txt, Nt.flat, List.length_append, List.length_singleton]
    split
    · have h3 := parS_len (lastN a).1 [5] (txt T a)
      have h4 := parS_len (lastN b).1 [4, 5] (txt T b)
      simp only [List.length_append, List.length_cons, List.length_nil]
      omega
    · have h3 := parS_len (lastN a).1 [] (txt T a)
      have h4 := parS_len (lastN b).1 [5] (txt T b)
      simp only [List.length_append, List.length_cons, List.length_nil]
      omega
/-- What it asks for lies in the table. -/
def inT (m : Nat) : Nt → Prop
  | .yes => True
  | .attr n => 0 ≤ n ∧ n.toNat < m
  | .not t => inT m t
  | .pair _ a b => inT m a ∧ inT m b
theorem str_cat (a b : List UInt8) : str a ++ str b = str (a ++ b) := bapp a b
end Go.Proofs.Ytdphdodjidbngaa

