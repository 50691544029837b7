/- The document's Name: contract. -/
import Derived.Test.YtjkaenjegcojhaaDoorGlyO
namespace Go.Proofs.YtjkaenjegcojhaaDoor
open Go.RowKit
set_option linter.unusedVariables false
set_option linter.unusedSimpArgs false

theorem nameR_bad (rs : List Rn) (k : Nat) (hk : k < rs.length) (h : okR rs[k] = false) : nameR rs = false := by
  have : rs.all okR = false := by
    rw [Bool.eq_false_iff]
    intro h2
    rw [List.all_eq_true] at h2
    have := h2 _ (List.getElem_mem hk)
    rw [h] at this
    cases this
  rw [nameR.eq_def, this, Bool.false_and]
theorem nameR_long (rs : List Rn) (h : 16 < rs.length) : nameR rs = false := by
  rw [nameR.eq_def, decide_eq_false (show ¬ rs.length ≤ 16 by omega), Bool.and_false, Bool.false_and, Bool.and_false]
theorem nameR_ok (rs : List Rn) (h0 : 0 < rs.length) (h : rs.length ≤ 16) (ho : ∀ j (hj : j < rs.length), okR rs[j] = true) : nameR rs = decide (57 < (rs[0]).2.1) := by
  have : rs.all okR = true := by
    rw [List.all_eq_true]
    intro r hr
    obtain ⟨j, hj, rfl⟩ := List.getElem_of_mem hr
    exact ho j hj
  cases rs with
  | nil => exact absurd h0 (by simp)
  | cons r rs => rw [nameR, this, decide_eq_true h0, decide_eq_true h]; rfl
theorem Sl.rune {w : World} {b off len cap : Nat} {l : List Rn} (h : Sl w 3 (some ⟨b, off, none⟩) len cap (rcells l)) (k : Nat) (hk : k < l.length) :
    w.cell? ⟨b, off + k * 3 + 1, none⟩ = some (.int .i64 (l[k].2.1 : Nat)) ∧ w.cell? ⟨b, off + k * 3 + 2, none⟩ = some (.bool l[k].2.2) := by
  have hl := rcells_length l
  obtain ⟨b', off', ha, hc⟩ := h.2.2.2 (by omega)
  cases ha
  obtain ⟨g1, g2⟩ := rcells_get l k hk
  exact ⟨by rw [Nat.add_assoc, hc _ (by omega), g1], by rw [Nat.add_assoc, hc _ (by omega), g2]⟩
theorem Sl.addr3 {w : World} {size : Nat} {A : Option Addr} {len cap : Nat} {xs : List Value} (h : Sl w size A len cap xs) (h0 : 0 < xs.length) : ∃ b off, A = some ⟨b, off, none⟩ := by
  obtain ⟨b, off, h1, _⟩ := h.2.2.2 h0
  exact ⟨b, off, h1⟩

end Go.Proofs.YtjkaenjegcojhaaDoor
