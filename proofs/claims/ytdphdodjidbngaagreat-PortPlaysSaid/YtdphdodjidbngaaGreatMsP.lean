/- msg.Parse and the document's Parse, as contracts. -/
import Derived.Test.YtdphdodjidbngaaGreatOcP
import Derived.Deep.Cut
namespace Go.Proofs.YtdphdodjidbngaaGreat
open Go.RowKit
set_option linter.unusedVariables false
set_option linter.unusedSimpArgs false

theorem bytes_of (W : World) (s : ByteArray) (hs : s.size ≤ 100000) : ∃ w' A c, (convert 9 54 (.string s)).run Tryz.prog W = .ok (.slice A s.size c) w' ∧ IsBytes w' A s.size c s.data.toList ∧ Below W.heap.size W w' := by
  refine ⟨_, _, _, run_bytes_of_string (P := Tryz.prog) W 9 54 5 s Tryz.underlying9 Tryz.underlying54 Tryz.underlying5, ?_, ?_⟩
  · have hc := grownCap_ge W s.size 0 5
    have hm := grownCap_le_maxLen W s.size 0 5 (by unfold maxLen; omega)
    have hsz : s.data.toList.length = s.size := by rw [Array.length_toList]; rfl
    refine ⟨by rw [bcells_length, hsz, Nat.mul_one], hc, hm, fun _ => ⟨W.heap.size, 0, rfl, fun i hi => ?_⟩⟩
    rw [bcells_length, hsz] at hi
    have h1 : (W.drew.alloc (.cells (bytesRow s (grownCap W s.size 0 5)) 5 ((bytesRow s (grownCap W s.size 0 5)).size, (bytesRow s (grownCap W s.size 0 5)).size + 1))).heap[W.heap.size]? = some (.cells (bytesRow s (grownCap W s.size 0 5)) 5 ((bytesRow s (grownCap W s.size 0 5)).size, (bytesRow s (grownCap W s.size 0 5)).size + 1)) := by
      have := heap_alloc_new W.drew (.cells (bytesRow s (grownCap W s.size 0 5)) 5 ((bytesRow s (grownCap W s.size 0 5)).size, (bytesRow s (grownCap W s.size 0 5)).size + 1))
      simpa using this
    rw [cell_of_row _ W.heap.size (0 + i) _ _ _ h1, Nat.zero_add, bytesRow_at s _ i hi]
    simp [bcells, hsz, hi]
  · exact Below.trans (⟨rfl, rfl, rfl, Nat.le_refl _, fun _ _ => rfl⟩ : Below W.heap.size W W.drew) ((Below.refl W.heap.size W.drew).alloc (Nat.le_refl W.heap.size) _)

/-- One field that is read. -/
def takeS (hb : Bool) (least : Int) (most : Int) (l : List UInt8) (e : Int) : Nat × List UInt8 × Int :=
  if hb then (if ((rdNum most l e).1 : Int) < least then ((rdNum most l e).1, (rdNum most l e).2.1, rdFail 3 (rdNum most l e).2.2) else rdNum most l e) else (0, l, e)
theorem takeS_short (hb : Bool) (least most : Int) (l : List UInt8) (e : Int) : (takeS hb least most l e).2.1.length ≤ l.length := by
  have h : (rdNum most l e).2.1.length ≤ l.length := by
    unfold rdNum
    repeat' split
    all_goals simp
  unfold takeS
  repeat' split
  all_goals first | exact h | simp

end Go.Proofs.YtdphdodjidbngaaGreat

namespace Go.Proofs.YtdphdodjidbngaaGreat
open Go.RowKit
set_option linter.unusedVariables false
set_option linter.unusedSimpArgs false

/-- Has a kind a field? -/
def hasB (k f : Nat) : Bool := if f = 1 then decide (1 ≤ k ∧ k ≤ 10) else if f = 2 then decide (k = 4 ∨ (7 ≤ k ∧ k ≤ 9)) else decide (k = 1 ∨ k = 4 ∨ k = 10)
theorem rdNum_max (most : Int) (l : List UInt8) (e : Int) : ((rdNum most l e).1 : Int) ≤ max most 0 := by
  unfold rdNum
  by_cases he : e = 0
  · rw [if_pos he]
    by_cases h : (firstN most l).2.2 = 0
    · rw [if_pos h]; exact (firstN_used most l h).2.2.2
    · rw [if_neg h]; simp; omega
  · rw [if_neg he]; simp; omega
theorem takeS_max (hb : Bool) (least most : Int) (l : List UInt8) (e : Int) : ((takeS hb least most l e).1 : Int) ≤ max most 0 := by
  have h := rdNum_max most l e
  unfold takeS
  repeat' split
  all_goals first | exact h | (simp; omega)

end Go.Proofs.YtdphdodjidbngaaGreat

namespace Go.Proofs.YtdphdodjidbngaaGreat
open Go.RowKit
set_option linter.unusedVariables false
set_option linter.unusedSimpArgs false

end Go.Proofs.YtdphdodjidbngaaGreat

namespace Go.Proofs.YtdphdodjidbngaaGreat
open Go.RowKit
set_option linter.unusedVariables false
set_option linter.unusedSimpArgs false

/-- Is a field as it may be? -/
def inS (hb : Bool) (least most n : Int) : Bool := if hb then decide (least ≤ n ∧ n ≤ most) else n == 0
def pt (hb : Bool) (n : Int) : List UInt8 := if hb then numB (cl n) else []
def mb (k j t p : Int) : List UInt8 := numB (cl k) ++ pt (hasB k.toNat 1) j ++ pt (hasB k.toNat 2) t ++ pt (hasB k.toNat 3) p
theorem pt_len (hb : Bool) (n : Int) : (pt hb n).length ≤ 8 := by
  unfold pt
  split
  · exact (numB_length _ (cl_le n)).2
  · simp

end Go.Proofs.YtdphdodjidbngaaGreat

namespace Go.Proofs.YtdphdodjidbngaaGreat
open Go.RowKit
set_option linter.unusedVariables false
set_option linter.unusedSimpArgs false

theorem cl_nat {n : Nat} (h : n ≤ 72057594037927935) : cl (n : Int) = n := by unfold cl; omega
/-- A field that is read without an error was put. -/
theorem takeS_ok (hb : Bool) (least most : Int) (l : List UInt8) (e : Int) (h : (takeS hb least most l e).2.2 = 0) :
    e = 0 ∧ l = pt hb ((takeS hb least most l e).1 : Nat) ++ (takeS hb least most l e).2.1 ∧ (((takeS hb least most l e).1 : Nat) : Int) ≤ max most 0 ∧ (if hb then least ≤ (((takeS hb least most l e).1 : Nat) : Int) else (takeS hb least most l e).1 = 0) := by
  cases hb with
  | false =>
    have h' : e = 0 := h
    refine ⟨h', ?_, ?_, ?_⟩
    · simp [takeS, pt]
    · simp [takeS]; omega
    · simp [takeS]
  | true =>
    have hR : takeS true least most l e = if ((rdNum most l e).1 : Int) < least then ((rdNum most l e).1, (rdNum most l e).2.1, rdFail 3 (rdNum most l e).2.2) else rdNum most l e := rfl
    have hlt : ¬ ((rdNum most l e).1 : Int) < least := by
      intro hlt
      rw [hR, if_pos hlt] at h
      simp only [rdFail] at h
      split at h
      · omega
      · contradiction
    rw [if_neg hlt] at hR
    rw [hR] at h ⊢
    have he : e = 0 := by
      rcases Classical.em (e = 0) with he | he
      · exact he
      · rw [rdNum, if_neg he] at h; exact h
    subst he
    have hf : (firstN most l).2.2 = 0 := by
      rcases Classical.em ((firstN most l).2.2 = 0) with hf | hf
      · exact hf
      · rw [rdNum, if_pos rfl, if_neg hf] at h; simp at h; exact h
    obtain ⟨u1, u2, n1, n2⟩ := firstN_used most l hf
    have hn := numB_firstN most l hf
    have e1 : rdNum most l 0 = ((firstN most l).1, l.drop (firstN most l).2.1, (0 : Int)) := by rw [rdNum, if_pos rfl, if_pos hf]
    rw [e1] at hlt ⊢
    refine ⟨rfl, ?_, n2, by simpa using hlt⟩
    simp only [pt, if_true]
    rw [cl_nat n1, hn, List.take_append_drop]
/-- A field that was put is read. -/
theorem takeS_pt (hb : Bool) (least most n : Int) (h0 : 0 ≤ least) (hm : most ≤ 72057594037927935) (h : inS hb least most n = true) (rest : List UInt8) : takeS hb least most (pt hb n ++ rest) 0 = (n.toNat, rest, 0) := by
  cases hb with
  | false =>
    have : n = 0 := by simpa [inS] using h
    subst this
    rfl
  | true =>
    have hn : least ≤ n ∧ n ≤ most := by simpa [inS] using h
    obtain ⟨m, rfl⟩ : ∃ m : Nat, n = m := ⟨n.toNat, by omega⟩
    have e1 : rdNum most (pt true m ++ rest) 0 = (m, rest, 0) := by
      simp only [pt, if_true]
      rw [cl_nat (by omega), rdNum, if_pos rfl, firstN_numB m (by omega) most hn.2 rest, if_pos rfl]
      simp
    rw [takeS, if_pos rfl, e1, if_neg (by simp only; omega)]
    simp
theorem inS_nonneg {hb : Bool} {least most n : Int} (h0 : 0 ≤ least) (h : inS hb least most n = true) : 0 ≤ n := by
  cases hb with
  | false => have : n = 0 := by simpa [inS] using h
             omega
  | true => have : least ≤ n ∧ n ≤ most := by simpa [inS] using h
            omega
end Go.Proofs.YtdphdodjidbngaaGreat

namespace Go.Proofs.YtdphdodjidbngaaGreat
open Go.RowKit
set_option linter.unusedVariables false
set_option linter.unusedSimpArgs false

end Go.Proofs.YtdphdodjidbngaaGreat

namespace Go.Proofs.YtdphdodjidbngaaGreat
open Go.RowKit Go.Sort
set_option linter.unusedVariables false
set_option linter.unusedSimpArgs false

theorem str_of (s : ByteArray) : str s.data.toList = s := by
  apply ByteArray.ext
  simp [str]

end Go.Proofs.YtdphdodjidbngaaGreat

