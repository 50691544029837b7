/- scan: what is found of what was written; the page's example. -/
import Derived.Test.YtkepfkfoblocgaaScnC
import Derived.Test.YtkepfkfoblocgaaFrmH
namespace Go.Proofs.Ytkepfkfoblocgaa
open Go.RowKit
set_option linter.unusedVariables false
set_option linter.unusedSimpArgs false

theorem frP_eq (p : List UInt8) (h : p.length ≤ 4096) : frP p = (numB p.length ++ p) ++ fourL (moreN 0 (numB p.length ++ p)) := by rw [frP, if_neg (by omega)]; rfl
theorem cut_frP (p rest : List UInt8) (h : p.length ≤ 4096) : cutS (frP p ++ rest) = (p, (frP p).length, 0) := by
  have hf : firstN 4096 ((frP p ++ rest).take 8) = (p.length, (numB p.length).length, 0) := by
    rw [firstN_take8, frP_eq p h, List.append_assoc, List.append_assoc]
    exact firstN_numB p.length (by omega) 4096 (by omega) _
  have hb := frP_eq p h
  have hl := frP_len p h
  generalize hm : numB p.length ++ p = m at hb
  have hml : m.length = (numB p.length).length + p.length := by rw [← hm]; simp
  have h1 : (frP p ++ rest).take ((numB p.length).length + p.length + 4) = frP p := by rw [← hl]; simp
  have h2 : (frP p ++ rest).take ((numB p.length).length + p.length) = m := by rw [hb, List.append_assoc, ← hml]; simp
  have h3 : (frP p).drop ((numB p.length).length + p.length) = fourL (moreN 0 m) := by rw [hb, ← hml]; simp
  have h4 : m.drop (numB p.length).length = p := by rw [← hm]; simp
  have h5 : (frP p ++ rest).length = (frP p).length + rest.length := List.length_append
  unfold cutS
  rw [hf]
  simp only [if_true]
  rw [if_neg (by omega), h1, h2, if_pos h3, h4, hl]
theorem cut_back (l : List UInt8) (h : (cutS l).2.2 = 0) : frP (cutS l).1 = l.take (cutS l).2.1 := by
  have hcl := (cutS_used l h).2.2
  unfold cutS at h hcl ⊢
  rw [firstN_take8] at h hcl ⊢
  have hF := firstN_used 4096 l
  have hN := numB_firstN 4096 l
  generalize firstN 4096 l = f at h hF hN hcl ⊢
  obtain ⟨n, u, x⟩ := f
  simp only at h hF hN hcl ⊢
  by_cases h1 : x = 0
  · obtain ⟨u1, u2, n1, n2⟩ := hF h1
    have hn := hN h1
    rw [if_pos h1] at h hcl ⊢
    by_cases h2 : l.length < u + n + 4
    · rw [if_pos h2] at h; simp at h
    rw [if_neg h2] at h hcl ⊢
    by_cases h3 : (l.take (u + n + 4)).drop (u + n) = fourL (moreN 0 (l.take (u + n)))
    · rw [if_pos h3] at hcl ⊢
      simp only at hcl ⊢
      have hlen : ((l.take (u + n)).drop u).length = n := by rw [List.length_drop, List.length_take]; omega
      rw [frP_eq _ hcl, hlen, hn]
      have e1 : l.take u ++ (l.take (u + n)).drop u = l.take (u + n) := by
        have := List.take_append_drop u (l.take (u + n))
        rw [List.take_take, Nat.min_eq_left (by omega)] at this
        exact this
      rw [e1, ← h3]
      have := List.take_append_drop (u + n) (l.take (u + n + 4))
      rw [List.take_take, Nat.min_eq_left (by omega)] at this
      exact this
    · rw [if_neg h3] at h; simp at h
  · rw [if_neg h1] at h
    exact absurd h h1
theorem recB_cons (x : Rc) (l : List Rc) : recB (x :: l) = fR x ++ recB l := by simp [recB]
/-- The bytes of the records that are found are the good ones. -/
theorem rec_back : ∀ n l, l.length ≤ n → recB (recS l).1 = l.take (recS l).2
  | n, l, hn => by
    by_cases h : okR l
    · have hu := cutS_used l h.1
      cases n with
      | zero => omega
      | succ n =>
        have ih := rec_back n (l.drop (cutS l).2.1) (by rw [List.length_drop]; omega)
        have hp := pr_ok _ h.2
        rw [recS_step l h, recB_cons, ih]
        simp only
        rw [fR, if_pos hp.1, hp.2, cut_back l h.1, List.take_add]
    · rw [recS_stop l h]; simp [recB]
theorem recS_cons (x : Rc) (hx : chkR x = true) (r : List UInt8) : recS (frP (rb x) ++ r) = (x :: (recS r).1, (frP (rb x)).length + (recS r).2) := by
  have hc := cut_frP (rb x) r (by have := rb_len x hx; omega)
  obtain ⟨h1, h2, _⟩ := pr_rb hx
  have hok : okR (frP (rb x) ++ r) := by unfold okR; rw [hc]; exact ⟨rfl, h1⟩
  rw [recS_step _ hok, hc]
  simp only [h2, List.drop_left]
theorem recS_short (q : List UInt8) (h : q.length < 5) : recS q = ([], 0) := recS_stop q (fun h2 => by have := cutS_used q h2.1; omega)
theorem ex18 : chkR ⟨3, 5, 2, 0, 0, 0, []⟩ = true ∧ rb ⟨3, 5, 2, 0, 0, 0, []⟩ = [3, 5, 2] ∧ chkR ⟨3, 5, 3, 0, 0, 0, []⟩ = true ∧ rb ⟨3, 5, 3, 0, 0, 0, []⟩ = [3, 5, 3] := by decide +kernel
theorem ex18_bytes : (recB [⟨3, 5, 2, 0, 0, 0, []⟩, ⟨3, 5, 3, 0, 0, 0, []⟩]).length = 16 ∧ recS ((recB [⟨3, 5, 2, 0, 0, 0, []⟩, ⟨3, 5, 3, 0, 0, 0, []⟩]).take 12) = ([⟨3, 5, 2, 0, 0, 0, []⟩], 8) := by
  have l1 : (frP [3, 5, 2]).length = 8 := by rw [frP_len _ (by simp), numB_one _ (by simp)]; rfl
  have l2 : (frP [3, 5, 3]).length = 8 := by rw [frP_len _ (by simp), numB_one _ (by simp)]; rfl
  have e : recB [⟨3, 5, 2, 0, 0, 0, []⟩, ⟨3, 5, 3, 0, 0, 0, []⟩] = frP [3, 5, 2] ++ frP [3, 5, 3] := by
    simp only [recB, List.map_cons, List.map_nil, List.flatten_cons, List.flatten_nil, List.append_nil, fR, ex18.1, ex18.2.1, ex18.2.2.1, ex18.2.2.2, if_true]
  rw [e]
  refine ⟨by rw [List.length_append, l1, l2], ?_⟩
  rw [List.take_append, l1, List.take_of_length_le (by rw [l1]; omega)]
  have h := recS_cons ⟨3, 5, 2, 0, 0, 0, []⟩ ex18.1 ((frP [3, 5, 3]).take 4)
  have h4 := recS_short ((frP [3, 5, 3]).take 4) (by rw [List.length_take]; omega)
  rw [ex18.2.1, h4, l1] at h
  show recS (frP [3, 5, 2] ++ (frP [3, 5, 3]).take 4) = _
  exact h
end Go.Proofs.Ytkepfkfoblocgaa
