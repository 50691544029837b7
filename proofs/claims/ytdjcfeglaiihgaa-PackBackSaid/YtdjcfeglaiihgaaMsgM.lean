/- What a message's bytes are parsed to. -/
import Derived.Test.YtdjcfeglaiihgaaMsgG
import Derived.Test.YtdjcfeglaiihgaaNumM
namespace Go.Proofs.Ytdjcfeglaiihgaa
open Go.RowKit
set_option linter.unusedVariables false
set_option linter.unusedSimpArgs false

theorem cl_nat {n : Nat} (h : n ≤ 72057594037927935) : cl (n : Int) = n := by unfold cl; omega
/-- A field that is read without an error was put. -/
theorem takeS_ok (hb : Bool) (least most : Int) (l : List UInt8) (e : Int) (h : (takeS hb least most l e).2.2 = 0) :
    e = 0 ∧ l = pt hb ((takeS hb least most l e).1 : Nat) ++ (takeS hb least most l e).2.1 ∧ (((takeS hb least most l e).1 : Nat) : Int) ≤ max most 0 ∧ (if hb then least ≤ (((takeS hb least most l e).1 : Nat) : Int) else (takeS hb least most l e).1 = 0) := by
  cases hb with
  | false =>
    have h' : e = 0 := h
    refine ⟨h', ?_, ?_, ?_⟩
    · simp [takeS, pt]
    · simp [takeS]; omega
    · simp [takeS]
  | true =>
    have hR : takeS true least most l e = if ((rdNum most l e).1 : Int) < least then ((rdNum most l e).1, (rdNum most l e).2.1, rdFail 3 (rdNum most l e).2.2) else rdNum most l e := rfl
    have hlt : ¬ ((rdNum most l e).1 : Int) < least := by
      intro hlt
      rw [hR, if_pos hlt] at h
      simp only [rdFail] at h
      split at h
      · omega
      · contradiction
    rw [if_neg hlt] at hR
    rw [hR] at h ⊢
    have he : e = 0 := by
      rcases Classical.em (e = 0) with he | he
      · exact he
      · rw [rdNum, if_neg he] at h; exact h
    subst he
    have hf : (firstN most l).2.2 = 0 := by
      rcases Classical.em ((firstN most l).2.2 = 0) with hf | hf
      · exact hf
      · rw [rdNum, if_pos rfl, if_neg hf] at h; simp at h; exact h
    obtain ⟨u1, u2, n1, n2⟩ := firstN_used most l hf
    have hn := numB_firstN most l hf
    have e1 : rdNum most l 0 = ((firstN most l).1, l.drop (firstN most l).2.1, (0 : Int)) := by rw [rdNum, if_pos rfl, if_pos hf]
    rw [e1] at hlt ⊢
    refine ⟨rfl, ?_, n2, by simpa using hlt⟩
    simp only [pt, if_true]
    rw [cl_nat n1, hn, List.take_append_drop]
/-- A field that was put is read. -/
theorem takeS_pt (hb : Bool) (least most n : Int) (h0 : 0 ≤ least) (hm : most ≤ 72057594037927935) (h : inS hb least most n = true) (rest : List UInt8) : takeS hb least most (pt hb n ++ rest) 0 = (n.toNat, rest, 0) := by
  cases hb with
  | false =>
    have : n = 0 := by simpa [inS] using h
    subst this
    rfl
  | true =>
    have hn : least ≤ n ∧ n ≤ most := by simpa [inS] using h
    obtain ⟨m, rfl⟩ : ∃ m : Nat, n = m := ⟨n.toNat, by omega⟩
    have e1 : rdNum most (pt true m ++ rest) 0 = (m, rest, 0) := by
      simp only [pt, if_true]
      rw [cl_nat (by omega), rdNum, if_pos rfl, firstN_numB m (by omega) most hn.2 rest, if_pos rfl]
      simp
    rw [takeS, if_pos rfl, e1, if_neg (by simp only; omega)]
    simp
theorem parse_mb (k j t p : Int) (h : chkB k j t p = true) (r : List UInt8) : (pa (mb k j t p ++ r)).1 = k.toNat ∧ (pb (mb k j t p ++ r)).1 = j.toNat ∧ (pc (mb k j t p ++ r)).1 = t.toNat ∧ pd (mb k j t p ++ r) = (p.toNat, r, 0) := by
  have hh := h
  unfold chkB at hh
  simp only [Bool.and_eq_true, decide_eq_true_eq] at hh
  obtain ⟨⟨⟨hk, hj⟩, ht⟩, hp⟩ := hh
  have ea : pa (mb k j t p ++ r) = (k.toNat, pt (hasB k.toNat 1) j ++ (pt (hasB k.toNat 2) t ++ (pt (hasB k.toNat 3) p ++ r)), 0) := by
    have : mb k j t p ++ r = pt true k ++ (pt (hasB k.toNat 1) j ++ (pt (hasB k.toNat 2) t ++ (pt (hasB k.toNat 3) p ++ r))) := by
      rw [mb, show pt true k = numB (cl k) from rfl]
      simp only [List.append_assoc]
    rw [pa, this, takeS_pt true 1 11 k (by omega) (by omega) (by simpa [inS] using hk)]
  have eb : pb (mb k j t p ++ r) = (j.toNat, pt (hasB k.toNat 2) t ++ (pt (hasB k.toNat 3) p ++ r), 0) := by
    rw [pb, ea]
    exact takeS_pt _ _ _ j (by omega) (by omega) hj _
  have ec : pc (mb k j t p ++ r) = (t.toNat, pt (hasB k.toNat 3) p ++ r, 0) := by
    rw [pc, ea, eb]
    exact takeS_pt _ _ _ t (by omega) (by omega) ht _
  have ed : pd (mb k j t p ++ r) = (p.toNat, r, 0) := by
    rw [pd, ea, ec]
    exact takeS_pt _ _ _ p (by omega) (by omega) hp _
  exact ⟨by rw [ea], by rw [eb], by rw [ec], ed⟩
theorem inS_nonneg {hb : Bool} {least most n : Int} (h0 : 0 ≤ least) (h : inS hb least most n = true) : 0 ≤ n := by
  cases hb with
  | false => have : n = 0 := by simpa [inS] using h
             omega
  | true => have : least ≤ n ∧ n ≤ most := by simpa [inS] using h
            omega
theorem chk_nonneg {k j t p : Int} (h : chkB k j t p = true) : 0 ≤ k ∧ 0 ≤ j ∧ 0 ≤ t ∧ 0 ≤ p := by
  unfold chkB at h
  simp only [Bool.and_eq_true, decide_eq_true_eq] at h
  obtain ⟨⟨⟨hk, hj⟩, ht⟩, hp⟩ := h
  exact ⟨by omega, inS_nonneg (by omega) hj, inS_nonneg (by omega) ht, inS_nonneg (by omega) hp⟩
/-- A valid message is parsed of its bytes. -/
theorem pm_mb {k j t p : Int} (h : chkB k j t p = true) : pe (mb k j t p) = 0 ∧ pm (mb k j t p) = msgV k j t p := by
  obtain ⟨h1, h2, h3, h4⟩ := parse_mb k j t p h []
  rw [List.append_nil] at h1 h2 h3 h4
  obtain ⟨n1, n2, n3, n4⟩ := chk_nonneg h
  have he : pe (mb k j t p) = 0 := by rw [pe, h4]; rfl
  refine ⟨he, ?_⟩
  rw [pm, if_pos he, h1, h2, h3, h4]
  simp only [Int.toNat_of_nonneg n1, Int.toNat_of_nonneg n2, Int.toNat_of_nonneg n3, Int.toNat_of_nonneg n4]
/-- No valid message's bytes begin another one's. -/
theorem mb_begins {k j t p k' j' t' p' : Int} (h : chkB k j t p = true) (h' : chkB k' j' t' p' = true) (r : List UInt8) (e : mb k' j' t' p' = mb k j t p ++ r) : k = k' ∧ j = j' ∧ t = t' ∧ p = p' := by
  obtain ⟨a1, a2, a3, a4⟩ := parse_mb k j t p h r
  obtain ⟨b1, b2, b3, b4⟩ := parse_mb k' j' t' p' h' []
  rw [List.append_nil] at b1 b2 b3 b4
  rw [← e] at a1 a2 a3 a4
  obtain ⟨n1, n2, n3, n4⟩ := chk_nonneg h
  obtain ⟨m1, m2, m3, m4⟩ := chk_nonneg h'
  rw [b4] at a4
  have a5 : p'.toNat = p.toNat := congrArg (·.1) a4
  omega
/-- What is parsed is valid and has those bytes. -/
theorem pm_ok (l : List UInt8) (h : pe l = 0) : ∃ k j t p : Int, pm l = msgV k j t p ∧ chkB k j t p = true ∧ mb k j t p = l := by
  have hd : (pd l).2.2 = 0 ∧ (pd l).2.1 = [] := by
    unfold pe rdEnd at h
    split at h
    · rename_i h2
      split at h
      · omega
      · rename_i h3
        exact ⟨h2, List.eq_nil_of_length_eq_zero (by omega)⟩
    · contradiction
  obtain ⟨e3, l3, m3, f3⟩ := takeS_ok _ _ _ _ _ hd.1
  obtain ⟨e2, l2, m2, f2⟩ := takeS_ok _ _ _ _ _ e3
  obtain ⟨e1, l1, m1, f1⟩ := takeS_ok _ _ _ _ _ e2
  obtain ⟨e0, l0, m0, f0⟩ := takeS_ok _ _ _ _ _ e1
  refine ⟨_, _, _, _, by rw [pm, if_pos h], ?_, ?_⟩
  · unfold chkB
    simp only [Int.toNat_natCast, Bool.and_eq_true, decide_eq_true_eq]
    have g0 : (1 : Int) ≤ ((pa l).1 : Nat) := f0
    have m0' : (((pa l).1 : Nat) : Int) ≤ max 11 0 := m0
    refine ⟨⟨⟨by omega, ?_⟩, ?_⟩, ?_⟩
    · have m1' : (((pb l).1 : Nat) : Int) ≤ max 72057594037927935 0 := m1
      have f1' : if hasB (pa l).1 1 then (1 : Int) ≤ ((pb l).1 : Nat) else (pb l).1 = 0 := f1
      unfold inS
      split <;> rename_i hx
      · rw [if_pos hx] at f1'; simp; omega
      · rw [if_neg hx] at f1'; simp [f1']
    · have m1' : (((pc l).1 : Nat) : Int) ≤ max 15 0 := m2
      have f1' : if hasB (pa l).1 2 then (0 : Int) ≤ ((pc l).1 : Nat) else (pc l).1 = 0 := f2
      unfold inS
      split <;> rename_i hx
      · rw [if_pos hx] at f1'; simp; omega
      · rw [if_neg hx] at f1'; simp [f1']
    · have m1' : (((pd l).1 : Nat) : Int) ≤ max 9 0 := m3
      have f1' : if hasB (pa l).1 3 then (1 : Int) ≤ ((pd l).1 : Nat) else (pd l).1 = 0 := f3
      unfold inS
      split <;> rename_i hx
      · rw [if_pos hx] at f1'; simp; omega
      · rw [if_neg hx] at f1'; simp [f1']
  · have q0 : l = pt true ((pa l).1 : Nat) ++ (pa l).2.1 := l0
    have q1 : (pa l).2.1 = pt (hasB (pa l).1 1) ((pb l).1 : Nat) ++ (pb l).2.1 := l1
    have q2 : (pb l).2.1 = pt (hasB (pa l).1 2) ((pc l).1 : Nat) ++ (pc l).2.1 := l2
    have q3 : (pc l).2.1 = pt (hasB (pa l).1 3) ((pd l).1 : Nat) ++ (pd l).2.1 := l3
    rw [hd.2, List.append_nil] at q3
    rw [q3] at q2
    rw [q2] at q1
    have q : l = pt true ((pa l).1 : Nat) ++ (pt (hasB (pa l).1 1) ((pb l).1 : Nat) ++ (pt (hasB (pa l).1 2) ((pc l).1 : Nat) ++ pt (hasB (pa l).1 3) ((pd l).1 : Nat))) := by rw [← q1]; exact q0
    rw [mb]
    simp only [Int.toNat_natCast]
    conv => rhs; rw [q]
    rw [show pt true ((pa l).1 : Nat) = numB (cl ((pa l).1 : Nat)) from rfl]
    simp only [List.append_assoc]
end Go.Proofs.Ytdjcfeglaiihgaa
