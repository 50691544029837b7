/- Table: maths: a table that is set is one. -/
import Derived.Test.YtjdlomdhaoadkaaTabK
namespace Go.Proofs.Ytjdlomdhaoadkaa
open Go.RowKit
set_option linter.unusedVariables false
set_option linter.unusedSimpArgs false

theorem perm_range {f s : Int} (h : permB f s = true) : 1 ≤ s ∧ s ≤ 4 := by
  unfold permB at h
  split at h
  · simp only [Bool.or_eq_true, decide_eq_true_eq] at h; omega
  · split at h
    · simp only [decide_eq_true_eq] at h; omega
    · split at h
      · simp only [decide_eq_true_eq] at h; omega
      · split at h
        · simp only [decide_eq_true_eq] at h; omega
        · simp at h
theorem setK_asc {l : List Tr} (h : l.Pairwise ltR) (c d s : Int) : (setK l c d s (posF c d l)).Pairwise ltR := by
  have hp := posF_spec c d l h
  unfold setK
  cases hf : fndB l c d (posF c d l) with
  | true =>
    obtain ⟨hk, h1, h2⟩ := fndB_iff.1 hf
    rw [if_pos rfl, getD_tz hk]
    rw [List.pairwise_iff_getElem] at h ⊢
    have key : ∀ i (hi : i < l.length) (hi' : i < (l.set (posF c d l) (l[posF c d l].1, l[posF c d l].2.1, s)).length), ((l.set (posF c d l) (l[posF c d l].1, l[posF c d l].2.1, s))[i]).1 = l[i].1 ∧ ((l.set (posF c d l) (l[posF c d l].1, l[posF c d l].2.1, s))[i]).2.1 = l[i].2.1 := fun i hi hi' => by
      rw [List.getElem_set]
      split
      · rename_i he
        subst he
        exact ⟨rfl, rfl⟩
      · exact ⟨rfl, rfl⟩
    intro i j hi hj hij
    have hi2 : i < l.length := by simpa using hi
    have hj2 : j < l.length := by simpa using hj
    have h3 := h i j hi2 hj2 hij
    have k1 := key i hi2 hi
    have k2 := key j hj2 hj
    rw [ltR_iff] at h3 ⊢
    rw [k1.1, k1.2, k2.1, k2.2]
    exact h3
  | false =>
    rw [if_neg (by simp)]
    generalize hk : posF c d l = k at *
    have hf2 : ∀ hk : k < l.length, ¬ (l[k].1 = c ∧ l[k].2.1 = d) := fun hk h9 => by
      rw [fndB_iff.2 ⟨hk, h9⟩] at hf
      cases hf
    have hall := List.pairwise_iff_getElem.1 h
    have hdrop : ∀ y ∈ l.drop k, c < y.1 ∨ (c = y.1 ∧ d < y.2.1) := fun y hy => by
      obtain ⟨i, hi, rfl⟩ := List.getElem_of_mem hy
      rw [List.length_drop] at hi
      rw [List.getElem_drop]
      have h0 := hp.2.2 k (by omega) (Nat.le_refl _)
      have h1 := hf2 (by omega)
      rw [cmpR_iff] at h0
      by_cases hi0 : i = 0
      · subst hi0
        simp only [Nat.add_zero]
        omega
      · have h2 := hall k (k + i) (by omega) (by omega) (by omega)
        rw [ltR_iff] at h2
        omega
    have htake : ∀ y ∈ l.take k, y.1 < c ∨ (y.1 = c ∧ y.2.1 < d) := fun y hy => by
      obtain ⟨i, hi, rfl⟩ := List.getElem_of_mem hy
      rw [List.length_take] at hi
      rw [List.getElem_take]
      have := hp.2.1 i (by omega) (by omega)
      rw [cmpR_iff] at this
      exact this
    rw [List.pairwise_append, List.pairwise_cons]
    refine ⟨h.sublist (List.take_sublist _ _), ⟨fun y hy => ?_, h.sublist (List.drop_sublist _ _)⟩, fun x hx y hy => ?_⟩
    · rw [ltR_iff]
      exact hdrop y hy
    · have h1 := htake x hx
      rw [ltR_iff]
      rcases List.mem_cons.1 hy with rfl | hy
      · exact h1
      · have h2 := hdrop y hy
        omega
theorem setT_chk {l : List Tr} (h : chkB l = true) (c d s : Int) : chkB (setT l c d s) = true := by
  unfold setT
  cases ho : setOk l c d s with
  | false => simpa using h
  | true =>
    rw [if_pos rfl]
    have hs : 1 ≤ s ∧ s ≤ 4 := by
      unfold setOk at ho
      rw [h, if_pos rfl] at ho
      exact perm_range ho
    obtain ⟨h1, h2⟩ := (chk_iff l).1 h
    refine (chk_iff _).2 ⟨setK_asc h1 c d s, fun x hx => ?_⟩
    unfold setK at hx
    split at hx
    · rcases List.mem_or_eq_of_mem_set hx with hx | rfl
      · exact h2 x hx
      · exact hs
    · rcases List.mem_append.1 hx with hx | hx
      · exact h2 x (List.mem_of_mem_take hx)
      · rcases List.mem_cons.1 hx with rfl | hx
        · exact hs
        · exact h2 x (List.mem_of_mem_drop hx)
theorem setT_len (l : List Tr) (c d s : Int) : (setT l c d s).length ≤ l.length + 1 := by
  unfold setT setK
  split
  · split
    · rw [List.length_set]; omega
    · simp; omega
  · omega
end Go.Proofs.Ytjdlomdhaoadkaa
