/- Table: maths: what Set makes of a table. -/
import Derived.Test.YtjdlomdhaoadkaaTabJ
namespace Go.Proofs.Ytjdlomdhaoadkaa
open Go.RowKit
set_option linter.unusedVariables false
set_option linter.unusedSimpArgs false

theorem cmpR_iff (x : Tr) (c d : Int) : cmpR x c d < 0 ↔ (x.1 < c ∨ (x.1 = c ∧ x.2.1 < d)) := cmpT_lt _ _ _ _
theorem posF_spec (c d : Int) : ∀ l : List Tr, l.Pairwise ltR → PosR l c d (posF c d l)
  | [], _ => ⟨by simp [posF], fun j hj => absurd hj (by simp), fun j hj => absurd hj (by simp)⟩
  | x :: l, h => by
    rw [List.pairwise_cons] at h
    have ih := posF_spec c d l h.2
    rw [posF]
    by_cases hx : cmpR x c d < 0
    · rw [if_pos hx]
      refine ⟨by have := ih.1; simp; omega, fun j hj hjk => ?_, fun j hj hjk => ?_⟩
      · match j, hj with
        | 0, _ => exact hx
        | j + 1, hj => exact ih.2.1 j (by simpa using hj) (by omega)
      · match j, hj with
        | 0, _ => omega
        | j + 1, hj => exact ih.2.2 j (by simpa using hj) (by omega)
    · rw [if_neg hx]
      refine ⟨by omega, fun j hj hjk => by omega, fun j hj hjk => ?_⟩
      match j, hj with
      | 0, _ => exact hx
      | j + 1, hj =>
        have hj9 : j < l.length := by simpa using hj
        have h1 := h.1 (l[j]) (List.getElem_mem hj9)
        rw [ltR_iff] at h1
        rw [List.getElem_cons_succ, cmpR_iff]
        rw [cmpR_iff] at hx
        omega
theorem stF_set (c d s c' d' : Int) : ∀ (l : List Tr) (k : Nat) (hk : k < l.length), (∀ j (hj : j < l.length), j < k → ¬ (l[j].1 = c ∧ l[j].2.1 = d)) → l[k].1 = c → l[k].2.1 = d → stF c' d' (l.set k (c, d, s)) = if c = c' ∧ d = d' then s else stF c' d' l
  | [], k, hk, _, _, _ => absurd hk (by simp)
  | x :: l, 0, hk, _, h1, h2 => by
    simp only [List.getElem_cons_zero] at h1 h2
    rw [List.set_cons_zero, stF, stF, h1, h2]
    split <;> rfl
  | x :: l, k + 1, hk, hn, h1, h2 => by
    have h0 : ¬ (x.1 = c ∧ x.2.1 = d) := hn 0 (by simp) (by omega)
    have ih := stF_set c d s c' d' l k (by simpa using hk) (fun j hj hjk => hn (j + 1) (by simpa using hj) (by omega)) (by simpa using h1) (by simpa using h2)
    rw [List.set_cons_succ, stF, stF, ih]
    by_cases hx : x.1 = c' ∧ x.2.1 = d'
    · rw [if_pos hx, if_pos hx, if_neg (fun h9 => h0 ⟨by omega, by omega⟩)]
    · rw [if_neg hx, if_neg hx]
theorem stF_ins (c d s c' d' : Int) : ∀ (l : List Tr) (k : Nat), k ≤ l.length → (∀ j (hj : j < l.length), j < k → ¬ (l[j].1 = c ∧ l[j].2.1 = d)) → stF c' d' (l.take k ++ (c, d, s) :: l.drop k) = if c = c' ∧ d = d' then s else stF c' d' l
  | l, 0, _, _ => by
    rw [List.take_zero, List.nil_append, List.drop_zero, stF]
  | [], k + 1, hk, _ => absurd hk (by simp)
  | x :: l, k + 1, hk, hn => by
    have h0 : ¬ (x.1 = c ∧ x.2.1 = d) := hn 0 (by simp) (by omega)
    have ih := stF_ins c d s c' d' l k (by simpa using hk) (fun j hj hjk => hn (j + 1) (by simpa using hj) (by omega))
    rw [List.take_succ_cons, List.drop_succ_cons, List.cons_append, stF, stF, ih]
    by_cases hx : x.1 = c' ∧ x.2.1 = d'
    · rw [if_pos hx, if_pos hx, if_neg (fun h9 => h0 ⟨by omega, by omega⟩)]
    · rw [if_neg hx, if_neg hx]
theorem fndB_iff {l : List Tr} {c d : Int} {k : Nat} : fndB l c d k = true ↔ ∃ hk : k < l.length, l[k].1 = c ∧ l[k].2.1 = d := by
  unfold fndB
  by_cases hk : k < l.length
  · rw [if_pos hk, getD_tz hk, beq_iff_eq]
    unfold cmpR
    rw [cmpT_zero]
    exact ⟨fun h => ⟨hk, h⟩, fun ⟨_, h⟩ => h⟩
  · rw [if_neg hk]
    exact ⟨fun h => (by cases h), fun ⟨h, _⟩ => absurd h hk⟩
theorem setK_st {l : List Tr} (h : l.Pairwise ltR) (c d s c' d' : Int) : stF c' d' (setK l c d s (posF c d l)) = if c = c' ∧ d = d' then s else stF c' d' l := by
  have hp := posF_spec c d l h
  have hn : ∀ j (hj : j < l.length), j < posF c d l → ¬ (l[j].1 = c ∧ l[j].2.1 = d) := fun j hj hjk h9 => by
    have := hp.2.1 j hj hjk
    rw [cmpR_iff] at this
    omega
  unfold setK
  cases hf : fndB l c d (posF c d l) with
  | true =>
    obtain ⟨hk, h1, h2⟩ := fndB_iff.1 hf
    rw [if_pos rfl, getD_tz hk, h1, h2]
    exact stF_set c d s c' d' l _ hk hn h1 h2
  | false =>
    rw [if_neg (by simp)]
    exact stF_ins c d s c' d' l _ hp.1 hn
theorem setT_st {l : List Tr} (h : chkB l = true) (c d s c' d' : Int) : stF c' d' (setT l c d s) = if setOk l c d s = true ∧ c = c' ∧ d = d' then s else stF c' d' l := by
  unfold setT
  cases ho : setOk l c d s with
  | true => simp only [if_true, true_and]; exact setK_st ((chk_iff l).1 h).1 c d s c' d'
  | false => simp
end Go.Proofs.Ytjdlomdhaoadkaa
