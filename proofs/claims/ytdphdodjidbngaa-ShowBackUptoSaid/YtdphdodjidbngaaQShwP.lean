/- Texts that came in, below a bound; and what the bound of bulk gives. -/
import Derived.Test.YtdphdodjidbngaaRows
import Derived.Test.YtdphdodjidbngaaGaP
import Derived.SliceStrings
namespace Go.Proofs.Ytdphdodjidbngaa
open Go.RowKit Go.ChangeShapes Go.WideShapes
set_option linter.unusedVariables false
set_option linter.unusedSimpArgs false

theorem Sl.of_textsK {w : World} {a : Option Addr} {len cap : Nat} {zs : List ByteArray} (K : Nat) (hK : ∀ s ∈ zs, s.size ≤ K) (h : IsTexts w a len cap zs) : ∃ l : List (List UInt8), Sl w 1 a len cap (scells l) ∧ l.length = len ∧ ∀ s ∈ l, s.length ≤ K := by
  rcases h with ⟨rfl, rfl, rfl, rfl⟩ | ⟨x, rfl, hl, hm, hz, hc, hw⟩
  · exact ⟨[], Sl.nil _ _ _ _ (Nat.zero_le _), rfl, by simp⟩
  · refine ⟨(zs.take len).map fun s => s.data.toList, ⟨by simp [scells]; omega, hl, hm, fun h0 => ?_⟩, by simp; omega, ?_⟩
    · have h1 : scells ((zs.take len).map fun s => s.data.toList) = (zs.take len).map Value.string := by
        simp only [scells, List.map_map]
        apply List.map_congr_left
        intro s _
        simp only [Function.comp, str_back]
      rw [h1] at h0 ⊢
      simp only [List.length_map, List.length_take] at h0
      obtain ⟨b, off, spot⟩ := x
      have hs : spot = none := by simpa [Addr.add] using World.cell?_spot (hc 0 (by omega))
      subst hs
      refine ⟨b, off, rfl, fun i hi => ?_⟩
      simp only [List.length_map, List.length_take] at hi
      have hci := hc i (by omega)
      rw [add_none] at hci
      rw [hci]
      simp [show i < len by omega, List.getD_eq_getElem?_getD, List.getElem?_eq_getElem (show i < zs.length by omega)]
    · intro s hs
      simp only [List.mem_map] at hs
      obtain ⟨y, hy, rfl⟩ := hs
      have := hK y (List.mem_of_mem_take hy)
      rw [Array.length_toList]
      exact this
theorem strs_bulk {H : Type} : ∀ (zs : List ByteArray), ∀ s ∈ zs, s.size ≤ Rows.uptoBulkAll (strs (H := H) zs)
  | [], s, h => by cases h
  | z :: zs, s, h => by
    have e : strs (H := H) (z :: zs) = .lit (.string z.data.toList) :: strs zs := rfl
    rw [e, Rows.uptoBulkAll, Rows.uptoBulk, Array.length_toList]
    rw [List.mem_cons] at h
    rcases h with rfl | h
    · have e2 : s.data.size = s.size := rfl
      omega
    · have := strs_bulk (H := H) zs s h
      omega
theorem table_bound {H : Type} {zs : List ByteArray} {n : Nat} {r : List (DataW H)} (h : Rows.uptoSmall H (.slice (strs (zs.take n)) (strs (zs.drop n)) :: r) = true) : ∀ s ∈ zs, s.size ≤ 1048576 := by
  have h : Rows.uptoBulkAll (DataW.slice (strs (H := H) (zs.take n)) (strs (zs.drop n)) :: r) ≤ 1048576 := of_decide_eq_true h
  simp only [Rows.uptoBulkAll, Rows.uptoBulk] at h
  intro s hs
  rw [← List.take_append_drop n zs, List.mem_append] at hs
  rcases hs with hs | hs
  · have := strs_bulk (H := H) _ s hs
    omega
  · have := strs_bulk (H := H) _ s hs
    omega
end Go.Proofs.Ytdphdodjidbngaa
