/- scan: what is found of a beginning of what was written. -/
import Derived.Test.YtkepfkfoblocgaaScnD
namespace Go.Proofs.Ytkepfkfoblocgaa
open Go.RowKit
set_option linter.unusedVariables false
set_option linter.unusedSimpArgs false

theorem cut_short9 (p q t : List UInt8) (h : p.length ≤ 4096) (he : q ++ t = frP p) (ht : t ≠ []) : (cutS q).2.2 ≠ 0 := fun h0 => by
  have hb := cut_back q h0
  have hu := cutS_used q h0
  have hc1 := cut_frP p [] h
  have hc2 := cut_frP (cutS q).1 (q.drop (cutS q).2.1 ++ t) hu.2.2
  have htl : 0 < t.length := List.length_pos_iff.2 ht
  have hql : q.length + t.length = (frP p).length := by rw [← he, List.length_append]
  rw [hb, ← List.append_assoc, List.take_append_drop, he] at hc2
  rw [List.append_nil, hc2] at hc1
  have h2 := congrArg (fun x => x.2.1) hc1
  simp only [List.length_take] at h2
  omega
/-- JUST THOSE ARE FOUND THAT ARE WHOLE. -/
theorem rec_torn : ∀ (l : List Rc) (k c : Nat), (∀ x ∈ l, chkR x = true) → k ≤ l.length → (recB (l.take k)).length ≤ c → (k = l.length ∨ c < (recB (l.take (k + 1))).length) → recS ((recB l).take c) = (l.take k, (recB (l.take k)).length)
  | [], k, c, _, hk, _, _ => by
    have : k = 0 := by simpa using hk
    subst this
    simp [recB, recS_short]
  | x :: r, 0, c, hp, _, _, h2 => by
    have hx := hp x (by simp)
    have hf : fR x = frP (rb x) := by rw [fR, if_pos hx]
    have hl := rb_len x hx
    have hc : c < (frP (rb x)).length := by
      rcases h2 with h | h
      · simp at h
      · simpa [recB, hf] using h
    have ht : (recB (x :: r)).take c = (frP (rb x)).take c := by rw [recB_cons, hf, List.take_append_of_le_length (by omega)]
    have hd : (frP (rb x)).drop c ≠ [] := by
      intro h
      have := congrArg List.length h
      simp at this
      omega
    rw [ht, recS_stop _ (fun h => cut_short9 (rb x) _ ((frP (rb x)).drop c) (by omega) (List.take_append_drop c _) hd h.1)]
    simp [recB]
  | x :: r, k + 1, c, hp, hk, h1, h2 => by
    have hx := hp x (by simp)
    have hf : fR x = frP (rb x) := by rw [fR, if_pos hx]
    simp only [List.take_succ_cons, recB_cons, hf, List.length_append, List.length_cons] at h1 h2 hk ⊢
    have ht : (frP (rb x) ++ recB r).take c = frP (rb x) ++ (recB r).take (c - (frP (rb x)).length) := by rw [List.take_append, List.take_of_length_le (by omega)]
    have ih := rec_torn r k (c - (frP (rb x)).length) (fun q hq => hp q (by simp [hq])) (by omega) (by omega) (by rcases h2 with h | h <;> omega)
    rw [ht, recS_cons x hx, ih]
theorem size_fR (x : Rc) : sizeR x = (fR x).length := by unfold sizeR fR; split <;> rfl
theorem recB_take_succ (l : List Rc) (k : Nat) (hk : k < l.length) : recB (l.take (k + 1)) = recB (l.take k) ++ fR l[k] := by
  rw [List.take_succ_eq_append_getElem hk, recB_snoc]
theorem recB_take_le (l : List Rc) (k : Nat) : (recB (l.take k)).length ≤ (recB l).length := by
  have h : recB l = recB (l.take k) ++ recB (l.drop k) := by
    rw [recB, recB, recB, ← List.flatten_append, ← List.map_append, List.take_append_drop]
  rw [h, List.length_append]
  omega
theorem rec_whole (l : List Rc) (h : ∀ x ∈ l, chkR x = true) : recS (recB l) = (l, (recB l).length) := by
  have := rec_torn l l.length (recB l).length h (Nat.le_refl _) (by simp) (.inl rfl)
  simpa using this
end Go.Proofs.Ytkepfkfoblocgaa
