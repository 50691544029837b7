/- Needs: the document's Depth, Says, Asks; Same; the page's example: contracts. -/
import Derived.Test.YtdphdodjidbngaaNeeH
namespace Go.Proofs.Ytdphdodjidbngaa
open Go.RowKit Go.Sort
set_option linter.unusedVariables false
set_option linter.unusedSimpArgs false

def attrsL (l : List (Int × Int)) : List Int := (l.filter (fun x => x.1 == 2)).map (·.2)
theorem attrsL_append (a b : List (Int × Int)) : attrsL (a ++ b) = attrsL a ++ attrsL b := by simp [attrsL]
theorem ofL_append (a b : List Int) : ofL (a ++ b) = ofL a ||| ofL b := by
  apply Nat.eq_of_testBit_eq
  intro i
  rw [Nat.testBit_or, ofL_bit, ofL_bit, ofL_bit, Bool.eq_iff_iff]
  simp only [List.mem_append, Bool.and_eq_true, Bool.or_eq_true, decide_eq_true_eq]
  constructor
  · rintro ⟨h1, h2 | h2⟩
    · exact .inl ⟨h1, h2⟩
    · exact .inr ⟨h1, h2⟩
  · rintro (⟨h1, h2⟩ | ⟨h1, h2⟩)
    · exact ⟨h1, .inl h2⟩
    · exact ⟨h1, .inr h2⟩
theorem ofL_nil : ofL [] = 0 := by decide
theorem asks_of : ∀ t : Nt, t.wf → t.asks = ofL (attrsL t.flat)
  | .yes, _ => ofL_nil.symm
  | .attr n, _ => by rw [Nt.asks, Nt.flat]; simp [attrsL]
  | .not t, h => by
    rw [Nt.asks, Nt.flat, attrsL_append, ofL_append, asks_of t h, Nat.zero_or]
    have : attrsL [((3 : Int), (0 : Int))] = [] := by simp [attrsL]
    rw [this, ofL_nil, Nat.or_zero]
  | .pair op a b, h => by
    rw [Nt.asks, Nt.flat, attrsL_append, ofL_append, attrsL_append, ofL_append, asks_of a h.2.1, asks_of b h.2.2, Nat.zero_or]
    have : attrsL [(op, (0 : Int))] = [] := by rcases h.1 with rfl | rfl <;> simp [attrsL]
    rw [this, ofL_nil, Nat.or_zero]
theorem attrsL_take {l : List (Int × Int)} {k : Nat} (hk : k < l.length) : attrsL (l.take (k + 1)) = attrsL (l.take k) ++ if l[k].1 = 2 then [l[k].2] else [] := by
  rw [List.take_succ_eq_append_getElem hk, attrsL_append]
  congr 1
  by_cases h : l[k].1 = 2 <;> simp [attrsL, h]
theorem attrsL_len (l : List (Int × Int)) : (attrsL l).length ≤ l.length := by
  unfold attrsL
  rw [List.length_map]
  exact List.length_filter_le _ _

end Go.Proofs.Ytdphdodjidbngaa

