/- The bytes of a conversion, written into. -/
import Derived.Test.YtdphdodjidbngaaChecked
import Derived.Test.YtdphdodjidbngaaText
import Derived.Test.YtdphdodjidbngaaRow
import Derived.Laws.RangeAny
namespace Go.Proofs.Ytdphdodjidbngaa
open Go.RowKit Go.Sort
set_option linter.unusedVariables false
set_option linter.unusedSimpArgs false

/-- Block G holds these bytes, that a conversion has made. -/
def BRow (w : World) (G c : Nat) (l : List UInt8) : Prop := ∃ cs : Array Value, w.heap[G]? = some (.cells cs 5 (cs.size, cs.size + 1)) ∧ l.length ≤ cs.size ∧ l.length ≤ c ∧ c ≤ maxLen ∧ ∀ i, i < l.length → cs[i]? = some (.int .u8 ((l.getD i 0).toNat : Int))
theorem BRow.cell {w : World} {G c : Nat} {l : List UInt8} (h : BRow w G c l) (i : Nat) (hi : i < l.length) : w.cell? ⟨G, i, none⟩ = some (.int .u8 ((l.getD i 0).toNat : Int)) ∧ w.frozen? ⟨G, i, none⟩ = false := by
  obtain ⟨cs, h1, h2, h3, h4, h5⟩ := h
  refine ⟨by rw [cell_of_row w G i cs _ _ h1, h5 i hi], ?_⟩
  simp only [World.frozen?, h1]
  rw [Bool.and_eq_false_iff]
  exact .inl (decide_eq_false (by omega))
theorem BRow.bytes {w : World} {G c : Nat} {l : List UInt8} (h : BRow w G c l) : IsBytes w (some ⟨G, 0, none⟩) l.length c l := by
  obtain ⟨cs, h1, h2, h3, h4, h5⟩ := h
  refine ⟨by rw [bcells_length, Nat.mul_one], h3, h4, fun _ => ⟨G, 0, rfl, fun i hi => ?_⟩⟩
  rw [bcells_length] at hi
  rw [cell_of_row w G (0 + i) cs _ _ h1, Nat.zero_add, h5 i hi]
  simp [bcells, hi]
theorem BRow.below {w w' : World} {G c : Nat} {l : List UInt8} (h : BRow w G c l) (hb : Below w.heap.size w w') : BRow w' G c l := by
  obtain ⟨cs, h1, h2⟩ := h
  exact ⟨cs, keep0 h1 hb, h2⟩
theorem BRow.set {w : World} {G c : Nat} {l : List UInt8} (h : BRow w G c l) (i : Nat) (d : UInt8) (hi : i < l.length) : BRow (w.setCell ⟨G, i, none⟩ (.int .u8 (d.toNat : Int))) G c (l.set i d) := by
  obtain ⟨cs, h1, h2, h3, h4, h5⟩ := h
  refine ⟨cs.setIfInBounds i (.int .u8 (d.toNat : Int)), ?_, by simpa using h2, by simpa using h3, h4, fun j hj => ?_⟩
  · simp [World.setCell, Array.getElem?_modify, h1]
  · rw [List.length_set] at hj
    rw [Array.getElem?_setIfInBounds, List.getD_eq_getElem?_getD, List.getElem?_set]
    by_cases e : i = j
    · subst e
      rw [if_pos rfl, if_pos (by omega), if_pos rfl, if_pos hi]
      rfl
    · rw [if_neg e, if_neg e, h5 j hj, List.getD_eq_getElem?_getD]
theorem bytes_brow (W : World) (s : ByteArray) (hs : s.size ≤ 100000) : ∃ w' c, (convert 9 85 (.string s)).run Try.prog W = .ok (.slice (some ⟨W.heap.size, 0, none⟩) s.size c) w' ∧ BRow w' W.heap.size c s.data.toList ∧ Below W.heap.size W w' ∧ W.heap.size < w'.heap.size := by
  have hsz : s.data.toList.length = s.size := by rw [Array.length_toList]; rfl
  refine ⟨_, _, run_bytes_of_string (P := Try.prog) W 9 85 5 s Try.underlying9 Try.underlying85 Try.underlying5, ⟨bytesRow s (grownCap W s.size 0 5), ?_, ?_, ?_, ?_, fun i hi => ?_⟩, ?_, ?_⟩
  · have := heap_alloc_new W.drew (.cells (bytesRow s (grownCap W s.size 0 5)) 5 ((bytesRow s (grownCap W s.size 0 5)).size, (bytesRow s (grownCap W s.size 0 5)).size + 1))
    simpa using this
  · rw [hsz]
    have : ∀ i, i < s.size → i < (bytesRow s (grownCap W s.size 0 5)).size := fun i hi => by
      have h1 := bytesRow_at s (grownCap W s.size 0 5) i hi
      exact (Array.getElem?_eq_some_iff.1 h1).1
    rcases Nat.eq_zero_or_pos s.size with h0 | h0
    · omega
    · have := this (s.size - 1) (by omega); omega
  · rw [hsz]; exact grownCap_ge W s.size 0 5
  · exact grownCap_le_maxLen W s.size 0 5 (by unfold maxLen; omega)
  · rw [hsz] at hi
    rw [bytesRow_at s _ i hi, List.getD_eq_getElem?_getD, List.getElem?_eq_getElem (by rw [hsz]; exact hi)]
    simp
  · exact Below.trans (⟨rfl, rfl, rfl, Nat.le_refl _, fun _ _ => rfl⟩ : Below W.heap.size W W.drew) ((Below.refl W.heap.size W.drew).alloc (Nat.le_refl W.heap.size) _)
  · simp

end Go.Proofs.Ytdphdodjidbngaa
