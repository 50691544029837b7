/- TableOnce: maths. -/
import Derived.Test.YtjdlomdhaoadkaaTabM
import Derived.Test.YtjdlomdhaoadkaaKeepW
namespace Go.Proofs.Ytjdlomdhaoadkaa
open Go.RowKit
set_option linter.unusedVariables false
set_option linter.unusedSimpArgs false

/-- What holds of a table, and of the tasks that became running, and ended. -/
def TI (k : Nat) (T : List Tr) (ran ended : List (Int × Int)) : Prop :=
  chkB T = true ∧ T.length ≤ k ∧ ran.length ≤ k ∧ ended.length ≤ k ∧ ran.Nodup ∧ ended.Nodup ∧ (∀ c d, 2 ≤ stF c d T ↔ (c, d) ∈ ran) ∧ (∀ p ∈ ended, 3 ≤ stF p.1 p.2 T)
theorem TI.nil : TI 0 [] [] [] := ⟨rfl, Nat.le_refl _, Nat.le_refl _, Nat.le_refl _, List.nodup_nil, List.nodup_nil, fun c d => by simp [stF], by simp⟩
def ranF (T : List Tr) (c d s : Int) (ran : List (Int × Int)) (q : Int) : List (Int × Int) := if setOk T c d s = true ∧ s = q then ran ++ [(c, d)] else ran
theorem ranF_len (T : List Tr) (c d s : Int) (ran : List (Int × Int)) (q : Int) : (ranF T c d s ran q).length ≤ ran.length + 1 := by
  unfold ranF; split <;> simp
theorem TI.step {k : Nat} {T : List Tr} {ran ended : List (Int × Int)} (h : TI k T ran ended) (c d s : Int) : TI (k + 1) (setT T c d s) (ranF T c d s ran 2) (ranF T c d s ended 3) := by
  obtain ⟨h1, h2, h3, h4, h5, h6, h7, h8⟩ := h
  have hl := setT_len T c d s
  have hr := ranF_len T c d s ran 2
  have he := ranF_len T c d s ended 3
  have hst := setT_st h1 c d s
  by_cases hok : setOk T c d s = true
  · have hp : permB (stF c d T) s = true := by
      have := hok
      unfold setOk at this
      rw [h1, if_pos rfl] at this
      exact this
    have hpp : (s = 1 ∧ stF c d T = 0) ∨ (s = 2 ∧ (stF c d T = 0 ∨ stF c d T = 1)) ∨ (s = 3 ∧ stF c d T = 2) ∨ (s = 4 ∧ stF c d T = 3) := by
      unfold permB at hp
      split at hp
      · simp at hp; omega
      · split at hp
        · simp at hp; omega
        · split at hp
          · simp at hp; omega
          · split at hp
            · simp at hp; omega
            · cases hp
    refine ⟨setT_chk h1 c d s, by omega, by omega, by omega, ?_, ?_, fun c' d' => ?_, fun p hp' => ?_⟩
    · unfold ranF
      split
      · rename_i hs
        refine List.nodup_append.2 ⟨h5, by simp, fun a ha b hb => ?_⟩
        simp at hb
        subst hb
        rintro rfl
        have := (h7 c d).2 ha
        omega
      · exact h5
    · unfold ranF
      split
      · rename_i hs
        refine List.nodup_append.2 ⟨h6, by simp, fun a ha b hb => ?_⟩
        simp at hb
        subst hb
        rintro rfl
        have := h8 _ ha
        simp only at this
        omega
      · exact h6
    · rw [hst c' d']
      unfold ranF
      by_cases he : c = c' ∧ d = d'
      · obtain ⟨rfl, rfl⟩ := he
        rw [if_pos ⟨hok, rfl, rfl⟩]
        by_cases hs : s = 2
        · rw [if_pos ⟨hok, hs⟩]; simp; omega
        · rw [if_neg (fun h => hs h.2), ← h7]; omega
      · rw [if_neg (fun h => he h.2), h7]
        split
        · simp only [List.mem_append, List.mem_singleton, Prod.mk.injEq]
          constructor
          · exact .inl
          · rintro (h | h)
            · exact h
            · exact absurd ⟨h.1.symm, h.2.symm⟩ he
        · rfl
    · rw [hst p.1 p.2]
      by_cases he : c = p.1 ∧ d = p.2
      · rw [if_pos ⟨hok, he⟩]
        unfold ranF at hp'
        split at hp'
        · omega
        · have := h8 p hp'
          rw [← he.1, ← he.2] at this
          omega
      · rw [if_neg (fun h => he h.2)]
        unfold ranF at hp'
        split at hp'
        · rcases List.mem_append.1 hp' with h | h
          · exact h8 p h
          · simp at h
            subst h
            exact absurd ⟨rfl, rfl⟩ he
        · exact h8 p hp'
  · have e1 : setT T c d s = T := by unfold setT; rw [if_neg hok]
    have e2 : ∀ l q, ranF T c d s l q = l := fun l q => by unfold ranF; rw [if_neg (fun h => hok h.1)]
    rw [e1, e2, e2]
    exact ⟨h1, by omega, by omega, by omega, h5, h6, h7, h8⟩
theorem TI.ended_ran {k : Nat} {T : List Tr} {ran ended : List (Int × Int)} (h : TI k T ran ended) : ∀ p ∈ ended, p ∈ ran := fun p hp => by
  have := h.2.2.2.2.2.2.2 p hp
  exact (h.2.2.2.2.2.2.1 p.1 p.2).1 (by omega)
theorem nodup_get {l : List (Int × Int)} (h : l.Nodup) (i k : Nat) (hi : i < l.length) (hk : k < i) : ¬ (l[i].1 = l[k].1 ∧ l[i].2 = l[k].2) := fun e => by
  have := (List.getElem_inj h (i := i) (j := k) (h₀ := hi) (h₁ := by omega)).1 (Prod.ext e.1 e.2)
  omega
/-- What the first loop holds. -/
def TW (W w : World) (k : Nat) (v3 v4 v5 : Value) : Prop := ∃ (A : Option Addr) (c : Nat) (T : List Tr) (ran ended : List (Int × Int)), v3 = .slice A T.length c ∧ TI k T ran ended ∧ w.ownsRow W.heap.size 51 3 v3 T.length (gcells r3 T) ∧ TwoR w W.heap.size 28 v4 ran v5 ended ∧ Below W.heap.size W w
theorem info_task : (Try.prog.info? 28).map (fun i => (i.zero, i.size, i.bytes)) = some (some (.agg #[.int .i64 0, .int .i64 0]), 2, 16) := by kernel_rfl
end Go.Proofs.Ytjdlomdhaoadkaa
