/- The errors of a need's text, of a job: none is a lack of room. -/
import Derived.Test.YtgakobolhmdnnaaGreatQJbD
namespace Go.Proofs.YtgakobolhmdnnaaGreat
open Go.RowKit Go.Sort
set_option linter.unusedVariables false
set_option linter.unusedSimpArgs false

theorem rp_e5 (T E) : ∀ (n : Nat) (m : Md) (ws : List Wd) (o : List (Int × Int)) (k : Nat) (e : Int), rp T E n m ws o = .er k e → 0 ≤ e ∧ e ≤ 5 := by
  intro n
  induction n with
  | zero =>
    intro m ws o k e h
    rw [rp] at h
    simp only [RdR.er.injEq] at h
    omega
  | succ n ih =>
    intro m ws o k e h
    cases m with
    | any =>
      rw [rp_any] at h
      rcases bind_er h with h1 | ⟨ws', o', h1, h2⟩
      · exact ih _ _ _ _ _ h1
      · exact ih _ _ _ _ _ h2
    | all =>
      rw [rp_all] at h
      rcases bind_er h with h1 | ⟨ws', o', h1, h2⟩
      · exact ih _ _ _ _ _ h1
      · exact ih _ _ _ _ _ h2
    | anyL =>
      rw [rp_anyL] at h
      split at h
      · rcases bind_er h with h1 | ⟨ws', o', h1, h2⟩
        · exact ih _ _ _ _ _ (put_er h1)
        · exact ih _ _ _ _ _ h2
      · exact absurd h (by simp)
    | allL =>
      rw [rp_allL] at h
      split at h
      · rcases bind_er h with h1 | ⟨ws', o', h1, h2⟩
        · exact ih _ _ _ _ _ (put_er h1)
        · exact ih _ _ _ _ _ h2
      · exact absurd h (by simp)
    | one =>
      rw [rp] at h
      split at h
      · simp only [RdR.er.injEq] at h
        omega
      split at h
      · exact ih _ _ _ _ _ (put_er h)
      split at h
      · rcases shut_er h with h1 | h1
        · exact ih _ _ _ _ _ h1
        · omega
      split at h
      · exact absurd h (by simp)
      split at h
      · simp only [RdR.er.injEq] at h
        omega
      · exact absurd h (by simp)
theorem rdTop_e5 {T E ws k e} (h : rdTop T E ws = .er k e) : 0 ≤ e ∧ e ≤ 5 := by
  rcases bind_er h with h1 | ⟨ws', o', h1, h2⟩
  · exact rp_e5 T E _ _ _ _ _ _ h1
  · split at h2
    · exact absurd h2 (by simp)
    · simp only [RdR.er.injEq] at h2
      omega
theorem lexF_e4 (l : List UInt8) : ∀ (rs : List Rn) (ws : List Wd) (run : Bool) (k : Nat), (lexF l ws run k rs).2.2 ≤ 4
  | [], ws, run, k => by rw [lexF]; simp
  | r :: rs, ws, run, k => by
    rw [lexF]
    split
    · exact lexF_e4 l rs _ _ _
    · split
      · exact lexF_e4 l rs _ _ _
      · split
        · exact lexF_e4 l rs _ _ _
        · simp
theorem lexW_e4 (l : List UInt8) : (lexW l).2.2 ≤ 4 := by
  unfold lexW
  split
  · simp
  · exact lexF_e4 l _ _ _ _
theorem chkN_e5 (o : List (Int × Int)) : 0 ≤ chkN o ∧ chkN o ≤ 5 := by
  unfold chkN
  split
  · omega
  · split
    · split <;> omega
    · omega
theorem ndT_e5 (T : List (List UInt8)) (l : List UInt8) : 0 ≤ (ndT T l).2.2 ∧ (ndT T l).2.2 ≤ 5 := by
  by_cases h : (lexW l).2.2 = 0
  · cases h2 : rdTop T (rns l 0).length (lexW l).1 with
    | er k c =>
      rw [ndT_er h h2]
      exact rdTop_e5 h2
    | ok r o =>
      by_cases h3 : chkN o = 0
      · rw [ndT_ok h h2 h3]
        simp
      · rw [ndT_bad h h2 h3]
        exact chkN_e5 o
  · rw [ndT_lex h]
    have := lexW_e4 l
    simp only
    omega
theorem chkF_e {T xs : List (List UInt8)} {ws : List Wk} : ∀ (d k : Nat), xs.length - k = d → (chkF T ws k (xs.drop k)).2.2 ≠ 7 ∧ (chkF T ws k (xs.drop k)).2.2 ≠ 9
  | 0, k, hd => by
    rw [chkF_end (by omega)]
    simp
  | d + 1, k, hd => by
    have hk : k < xs.length := by omega
    have h5 := ndT_e5 T xs[k]
    rw [chkF_drop hk]
    split
    · split
      · simp
      · exact chkF_e d (k + 1) (by omega)
    · simp only
      omega
/-- A job is never refused for room, or as there, by what it is. -/
theorem chkJ_e (id : Int) (T xs : List (List UInt8)) (ws : List Wk) : (chkJ id T ws xs).2.2 ≠ 7 ∧ (chkJ id T ws xs).2.2 ≠ 9 := by
  by_cases h1 : 1 ≤ id ∧ id ≤ 72057594037927935
  · by_cases h0 : xs.length = 0
    · rw [chkJ_empty h1 h0]; simp
    · by_cases h2 : 16 < xs.length
      · rw [chkJ_long h1 h0 h2]; simp
      · rw [chkJ_in h1 h0 h2]
        exact chkF_e xs.length 0 (by omega)
  · rw [chkJ_no h1]; simp
end Go.Proofs.YtgakobolhmdnnaaGreat
