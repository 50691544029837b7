/- Table: maths: a table that is set is one; what its states become. -/
import Derived.Test.YtjdlomdhaoadkaaTabI
namespace Go.Proofs.Ytjdlomdhaoadkaa
open Go.RowKit
set_option linter.unusedVariables false
set_option linter.unusedSimpArgs false

def ltR (x y : Tr) : Prop := cmpT x.1 x.2.1 y.1 y.2.1 < 0
theorem ltR_iff (x y : Tr) : ltR x y ↔ (x.1 < y.1 ∨ (x.1 = y.1 ∧ x.2.1 < y.2.1)) := cmpT_lt _ _ _ _
theorem okB_iff (l : List Tr) (k : Nat) (hk : k < l.length) : okB l k = true ↔ (1 ≤ l[k].2.2 ∧ l[k].2.2 ≤ 4 ∧ ∀ j (hj : j + 1 = k), ltR (l[j]'(by omega)) l[k]) := by
  unfold okB
  rw [getD_tz hk]
  simp only [Bool.and_eq_true, Bool.or_eq_true, decide_eq_true_eq, beq_iff_eq]
  constructor
  · rintro ⟨h1, h2, h3⟩
    refine ⟨h1, h2, fun j hj => ?_⟩
    rcases h3 with h3 | h3
    · omega
    · have e : l.getD (k - 1) tz = l[j]'(by omega) := by
        have : k - 1 = j := by omega
        rw [this, getD_tz]
      rw [e] at h3
      exact h3
  · rintro ⟨h1, h2, h3⟩
    refine ⟨h1, h2, ?_⟩
    by_cases h0 : k = 0
    · exact .inl h0
    · refine .inr ?_
      have e : l.getD (k - 1) tz = l[k - 1]'(by omega) := getD_tz (by omega)
      rw [e]
      exact h3 (k - 1) (by omega)
theorem chk_asc {l : List Tr} (h : chkB l = true) : ∀ (n i : Nat) (hn : i + n + 1 < l.length), ltR (l[i]'(by omega)) l[i + n + 1]
  | 0, i, hn => chk_next h i hn
  | n + 1, i, hn => by
    have h1 := chk_asc h n i (by omega)
    have h2 : ltR l[i + n + 1] l[i + (n + 1) + 1] := chk_next h (i + n + 1) hn
    rw [ltR_iff] at h1 h2 ⊢
    omega
/-- A table, in two parts: its rows rise, and each has a state. -/
theorem chk_iff (l : List Tr) : chkB l = true ↔ (l.Pairwise ltR ∧ ∀ x ∈ l, 1 ≤ x.2.2 ∧ x.2.2 ≤ 4) := by
  constructor
  · intro h
    refine ⟨?_, fun x hx => ?_⟩
    · rw [List.pairwise_iff_getElem]
      intro i j hi hj hij
      have e : i + (j - i - 1) + 1 = j := by omega
      have := chk_asc h (j - i - 1) i (by omega)
      simpa only [e] using this
    · obtain ⟨k, hk, rfl⟩ := List.getElem_of_mem hx
      have := (okB_iff l k hk).1 (chkB_at h k hk)
      exact ⟨this.1, this.2.1⟩
  · rintro ⟨h1, h2⟩
    refine chkB_yes fun k hk => (okB_iff l k hk).2 ⟨(h2 _ (List.getElem_mem hk)).1, (h2 _ (List.getElem_mem hk)).2, fun j hj => ?_⟩
    rw [List.pairwise_iff_getElem] at h1
    exact h1 j k (by omega) hk (by omega)
end Go.Proofs.Ytjdlomdhaoadkaa
