/- msg.Parse and the document's Parse, as contracts. -/
import Derived.Test.YtdphdodjidbngaaGreatOcP
import Derived.Deep.Cut
namespace Go.Proofs.YtdphdodjidbngaaGreat
open Go.RowKit
set_option linter.unusedVariables false
set_option linter.unusedSimpArgs false

theorem bytes_of (W : World) (s : ByteArray) (hs : s.size ≤ 100000) : ∃ w' A c, (convert 9 54 (.string s)).run Tryz.prog W = .ok (.slice A s.size c) w' ∧ IsBytes w' A s.size c s.data.toList ∧ Below W.heap.size W w' := by
  refine ⟨_, _, _, run_bytes_of_string (P := Tryz.prog) W 9 54 5 s Tryz.underlying9 Tryz.underlying54 Tryz.underlying5, ?_, ?_⟩
  · have hc := grownCap_ge W s.size 0 5
    have hm := grownCap_le_maxLen W s.size 0 5 (by unfold maxLen; omega)
    have hsz : s.data.toList.length = s.size := by rw [Array.length_toList]; rfl
    refine ⟨by rw [bcells_length, hsz, Nat.mul_one], hc, hm, fun _ => ⟨W.heap.size, 0, rfl, fun i hi => ?_⟩⟩
    rw [bcells_length, hsz] at hi
    have h1 : (W.drew.alloc (.cells (bytesRow s (grownCap W s.size 0 5)) 5 ((bytesRow s (grownCap W s.size 0 5)).size, (bytesRow s (grownCap W s.size 0 5)).size + 1))).heap[W.heap.size]? = some (.cells (bytesRow s (grownCap W s.size 0 5)) 5 ((bytesRow s (grownCap W s.size 0 5)).size, (bytesRow s (grownCap W s.size 0 5)).size + 1)) := by
      have := heap_alloc_new W.drew (.cells (bytesRow s (grownCap W s.size 0 5)) 5 ((bytesRow s (grownCap W s.size 0 5)).size, (bytesRow s (grownCap W s.size 0 5)).size + 1))
      simpa using this
    rw [cell_of_row _ W.heap.size (0 + i) _ _ _ h1, Nat.zero_add, bytesRow_at s _ i hi]
    simp [bcells, hsz, hi]
  · exact Below.trans (⟨rfl, rfl, rfl, Nat.le_refl _, fun _ _ => rfl⟩ : Below W.heap.size W W.drew) ((Below.refl W.heap.size W.drew).alloc (Nat.le_refl W.heap.size) _)

/-- Which fields a kind has. -/
def fld (k : Nat) : Nat := if k = 1 ∨ k = 10 then 5 else if k = 2 ∨ k = 3 ∨ k = 5 ∨ k = 6 then 1 else if k = 4 then 7 else if k = 7 ∨ k = 8 ∨ k = 9 then 3 else 0
/-- One field that is read. -/
def takeS (hb : Bool) (least : Int) (most : Int) (l : List UInt8) (e : Int) : Nat × List UInt8 × Int :=
  if hb then (if ((rdNum most l e).1 : Int) < least then ((rdNum most l e).1, (rdNum most l e).2.1, rdFail 3 (rdNum most l e).2.2) else rdNum most l e) else (0, l, e)
theorem takeS_short (hb : Bool) (least most : Int) (l : List UInt8) (e : Int) : (takeS hb least most l e).2.1.length ≤ l.length := by
  have h : (rdNum most l e).2.1.length ≤ l.length := by
    unfold rdNum
    repeat' split
    all_goals simp
  unfold takeS
  repeat' split
  all_goals first | exact h | simp

end Go.Proofs.YtdphdodjidbngaaGreat

namespace Go.Proofs.YtdphdodjidbngaaGreat
open Go.RowKit
set_option linter.unusedVariables false
set_option linter.unusedSimpArgs false

theorem four_cells {w : World} {b t : Nat} {x y z u : Value} (h : w.heap[b]? = some (.cells #[x, y, z, u] t (0, 0))) :
    (w.cell? ⟨b, 0, none⟩ = some x ∧ w.cell? ⟨b, 1, none⟩ = some y ∧ w.cell? ⟨b, 2, none⟩ = some z ∧ w.cell? ⟨b, 3, none⟩ = some u) ∧ (w.frozen? ⟨b, 0, none⟩ = false ∧ w.frozen? ⟨b, 1, none⟩ = false ∧ w.frozen? ⟨b, 2, none⟩ = false ∧ w.frozen? ⟨b, 3, none⟩ = false) :=
  ⟨⟨by rw [cell_of_row w b 0 _ t (0, 0) h]; rfl, by rw [cell_of_row w b 1 _ t (0, 0) h]; rfl, by rw [cell_of_row w b 2 _ t (0, 0) h]; rfl, by rw [cell_of_row w b 3 _ t (0, 0) h]; rfl⟩, frozen_of_row w b 0 _ t h, frozen_of_row w b 1 _ t h, frozen_of_row w b 2 _ t h, frozen_of_row w b 3 _ t h⟩
theorem set_four {w : World} {b t : Nat} {x y z u : Value} (h : w.heap[b]? = some (.cells #[x, y, z, u] t (0, 0))) (x' y' z' u' : Value) :
    ((((w.setCell ⟨b, 0, none⟩ x').setCell ⟨b, 1, none⟩ y').setCell ⟨b, 2, none⟩ z').setCell ⟨b, 3, none⟩ u').heap[b]? = some (.cells #[x', y', z', u'] t (0, 0)) := by
  have h1 := heap_setCell_same w b 0 #[x, y, z, u] t x' h
  have h2 := heap_setCell_same _ b 1 _ t y' h1
  have h3 := heap_setCell_same _ b 2 _ t z' h2
  have h4 := heap_setCell_same _ b 3 _ t u' h3
  rw [h4]
  rfl

/-- Has a kind a field? -/
def hasB (k f : Nat) : Bool := if f = 1 then decide (1 ≤ k ∧ k ≤ 10) else if f = 2 then decide (k = 4 ∨ (7 ≤ k ∧ k ≤ 9)) else decide (k = 1 ∨ k = 4 ∨ k = 10)
theorem rdNum_max (most : Int) (l : List UInt8) (e : Int) : ((rdNum most l e).1 : Int) ≤ max most 0 := by
  unfold rdNum
  by_cases he : e = 0
  · rw [if_pos he]
    by_cases h : (firstN most l).2.2 = 0
    · rw [if_pos h]; exact (firstN_used most l h).2.2.2
    · rw [if_neg h]; simp; omega
  · rw [if_neg he]; simp; omega
theorem takeS_max (hb : Bool) (least most : Int) (l : List UInt8) (e : Int) : ((takeS hb least most l e).1 : Int) ≤ max most 0 := by
  have h := rdNum_max most l e
  unfold takeS
  repeat' split
  all_goals first | exact h | (simp; omega)

end Go.Proofs.YtdphdodjidbngaaGreat

namespace Go.Proofs.YtdphdodjidbngaaGreat
open Go.RowKit
set_option linter.unusedVariables false
set_option linter.unusedSimpArgs false

def pa (l : List UInt8) : Nat × List UInt8 × Int := takeS true 1 11 l 0
def pb (l : List UInt8) : Nat × List UInt8 × Int := takeS (hasB (pa l).1 1) 1 72057594037927935 (pa l).2.1 (pa l).2.2
def pc (l : List UInt8) : Nat × List UInt8 × Int := takeS (hasB (pa l).1 2) 0 15 (pb l).2.1 (pb l).2.2
def pd (l : List UInt8) : Nat × List UInt8 × Int := takeS (hasB (pa l).1 3) 1 9 (pc l).2.1 (pc l).2.2
def pe (l : List UInt8) : Int := rdEnd (pd l).2.1 (pd l).2.2
def msgV (k j t p : Int) : Value := .agg #[.int .i64 k, .int .i64 j, .int .i64 t, .int .i64 p]
/-- The message that is parsed. -/
def pm (l : List UInt8) : Value := if pe l = 0 then msgV (pa l).1 (pb l).1 (pc l).1 (pd l).1 else msgV 0 0 0 0

theorem fld_has (k : Nat) (hk : k ≤ 11) : ((bits .and .i64 (fld k : Nat) 1 == 0) = !hasB k 1) ∧ ((bits .and .i64 (fld k : Nat) 2 == 0) = !hasB k 2) ∧ ((bits .and .i64 (fld k : Nat) 4 == 0) = !hasB k 3) := by
  rcases (by omega : k = 0 ∨ k = 1 ∨ k = 2 ∨ k = 3 ∨ k = 4 ∨ k = 5 ∨ k = 6 ∨ k = 7 ∨ k = 8 ∨ k = 9 ∨ k = 10 ∨ k = 11) with rfl | rfl | rfl | rfl | rfl | rfl | rfl | rfl | rfl | rfl | rfl | rfl
  all_goals decide +kernel

end Go.Proofs.YtdphdodjidbngaaGreat

namespace Go.Proofs.YtdphdodjidbngaaGreat
open Go.RowKit
set_option linter.unusedVariables false
set_option linter.unusedSimpArgs false

/-- Is a field as it may be? -/
def inS (hb : Bool) (least most n : Int) : Bool := if hb then decide (least ≤ n ∧ n ≤ most) else n == 0
def chkB (k j t p : Int) : Bool := decide (1 ≤ k ∧ k ≤ 11) && inS (hasB k.toNat 1) 1 72057594037927935 j && inS (hasB k.toNat 2) 0 15 t && inS (hasB k.toNat 3) 1 9 p
def pt (hb : Bool) (n : Int) : List UInt8 := if hb then numB (cl n) else []
def mb (k j t p : Int) : List UInt8 := numB (cl k) ++ pt (hasB k.toNat 1) j ++ pt (hasB k.toNat 2) t ++ pt (hasB k.toNat 3) p
theorem pt_len (hb : Bool) (n : Int) : (pt hb n).length ≤ 8 := by
  unfold pt
  split
  · exact (numB_length _ (cl_le n)).2
  · simp

theorem convS {w : World} {a : Option Addr} {n cap : Nat} {l : List UInt8} (h : IsBytes w a n cap l) : (convert 54 9 (.slice a n cap)).run Tryz.prog w = .ok (.string (str l)) w :=
  conv_str (P := Tryz.prog) (src := 54) (dst := 9) Tryz.underlying54 Tryz.underlying5 Tryz.underlying9 h

end Go.Proofs.YtdphdodjidbngaaGreat

namespace Go.Proofs.YtdphdodjidbngaaGreat
open Go.RowKit
set_option linter.unusedVariables false
set_option linter.unusedSimpArgs false

theorem cl_nat {n : Nat} (h : n ≤ 72057594037927935) : cl (n : Int) = n := by unfold cl; omega
/-- A field that is read without an error was put. -/
theorem takeS_ok (hb : Bool) (least most : Int) (l : List UInt8) (e : Int) (h : (takeS hb least most l e).2.2 = 0) :
    e = 0 ∧ l = pt hb ((takeS hb least most l e).1 : Nat) ++ (takeS hb least most l e).2.1 ∧ (((takeS hb least most l e).1 : Nat) : Int) ≤ max most 0 ∧ (if hb then least ≤ (((takeS hb least most l e).1 : Nat) : Int) else (takeS hb least most l e).1 = 0) := by
  cases hb with
  | false =>
    have h' : e = 0 := h
    refine ⟨h', ?_, ?_, ?_⟩
    · simp [takeS, pt]
    · simp [takeS]; omega
    · simp [takeS]
  | true =>
    have hR : takeS true least most l e = if ((rdNum most l e).1 : Int) < least then ((rdNum most l e).1, (rdNum most l e).2.1, rdFail 3 (rdNum most l e).2.2) else rdNum most l e := rfl
    have hlt : ¬ ((rdNum most l e).1 : Int) < least := by
      intro hlt
      rw [hR, if_pos hlt] at h
      simp only [rdFail] at h
      split at h
      · omega
      · contradiction
    rw [if_neg hlt] at hR
    rw [hR] at h ⊢
    have he : e = 0 := by
      rcases Classical.em (e = 0) with he | he
      · exact he
      · rw [rdNum, if_neg he] at h; exact h
    subst he
    have hf : (firstN most l).2.2 = 0 := by
      rcases Classical.em ((firstN most l).2.2 = 0) with hf | hf
      · exact hf
      · rw [rdNum, if_pos rfl, if_neg hf] at h; simp at h; exact h
    obtain ⟨u1, u2, n1, n2⟩ := firstN_used most l hf
    have hn := numB_firstN most l hf
    have e1 : rdNum most l 0 = ((firstN most l).1, l.drop (firstN most l).2.1, (0 : Int)) := by rw [rdNum, if_pos rfl, if_pos hf]
    rw [e1] at hlt ⊢
    refine ⟨rfl, ?_, n2, by simpa using hlt⟩
    simp only [pt, if_true]
    rw [cl_nat n1, hn, List.take_append_drop]
/-- A field that was put is read. -/
theorem takeS_pt (hb : Bool) (least most n : Int) (h0 : 0 ≤ least) (hm : most ≤ 72057594037927935) (h : inS hb least most n = true) (rest : List UInt8) : takeS hb least most (pt hb n ++ rest) 0 = (n.toNat, rest, 0) := by
  cases hb with
  | false =>
    have : n = 0 := by simpa [inS] using h
    subst this
    rfl
  | true =>
    have hn : least ≤ n ∧ n ≤ most := by simpa [inS] using h
    obtain ⟨m, rfl⟩ : ∃ m : Nat, n = m := ⟨n.toNat, by omega⟩
    have e1 : rdNum most (pt true m ++ rest) 0 = (m, rest, 0) := by
      simp only [pt, if_true]
      rw [cl_nat (by omega), rdNum, if_pos rfl, firstN_numB m (by omega) most hn.2 rest, if_pos rfl]
      simp
    rw [takeS, if_pos rfl, e1, if_neg (by simp only; omega)]
    simp
theorem parse_mb (k j t p : Int) (h : chkB k j t p = true) (r : List UInt8) : (pa (mb k j t p ++ r)).1 = k.toNat ∧ (pb (mb k j t p ++ r)).1 = j.toNat ∧ (pc (mb k j t p ++ r)).1 = t.toNat ∧ pd (mb k j t p ++ r) = (p.toNat, r, 0) := by
  have hh := h
  unfold chkB at hh
  simp only [Bool.and_eq_true, decide_eq_true_eq] at hh
  obtain ⟨⟨⟨hk, hj⟩, ht⟩, hp⟩ := hh
  have ea : pa (mb k j t p ++ r) = (k.toNat, pt (hasB k.toNat 1) j ++ (pt (hasB k.toNat 2) t ++ (pt (hasB k.toNat 3) p ++ r)), 0) := by
    have : mb k j t p ++ r = pt true k ++ (pt (hasB k.toNat 1) j ++ (pt (hasB k.toNat 2) t ++ (pt (hasB k.toNat 3) p ++ r))) := by
      rw [mb, show pt true k = numB (cl k) from rfl]
      simp only [List.append_assoc]
    rw [pa, this, takeS_pt true 1 11 k (by omega) (by omega) (by simpa [inS] using hk)]
  have eb : pb (mb k j t p ++ r) = (j.toNat, pt (hasB k.toNat 2) t ++ (pt (hasB k.toNat 3) p ++ r), 0) := by
    rw [pb, ea]
    exact takeS_pt _ _ _ j (by omega) (by omega) hj _
  have ec : pc (mb k j t p ++ r) = (t.toNat, pt (hasB k.toNat 3) p ++ r, 0) := by
    rw [pc, ea, eb]
    exact takeS_pt _ _ _ t (by omega) (by omega) ht _
  have ed : pd (mb k j t p ++ r) = (p.toNat, r, 0) := by
    rw [pd, ea, ec]
    exact takeS_pt _ _ _ p (by omega) (by omega) hp _
  exact ⟨by rw [ea], by rw [eb], by rw [ec], ed⟩
theorem inS_nonneg {hb : Bool} {least most n : Int} (h0 : 0 ≤ least) (h : inS hb least most n = true) : 0 ≤ n := by
  cases hb with
  | false => have : n = 0 := by simpa [inS] using h
             omega
  | true => have : least ≤ n ∧ n ≤ most := by simpa [inS] using h
            omega
theorem chk_nonneg {k j t p : Int} (h : chkB k j t p = true) : 0 ≤ k ∧ 0 ≤ j ∧ 0 ≤ t ∧ 0 ≤ p := by
  unfold chkB at h
  simp only [Bool.and_eq_true, decide_eq_true_eq] at h
  obtain ⟨⟨⟨hk, hj⟩, ht⟩, hp⟩ := h
  exact ⟨by omega, inS_nonneg (by omega) hj, inS_nonneg (by omega) ht, inS_nonneg (by omega) hp⟩
/-- A valid message is parsed of its bytes. -/
theorem pm_mb {k j t p : Int} (h : chkB k j t p = true) : pe (mb k j t p) = 0 ∧ pm (mb k j t p) = msgV k j t p := by
  obtain ⟨h1, h2, h3, h4⟩ := parse_mb k j t p h []
  rw [List.append_nil] at h1 h2 h3 h4
  obtain ⟨n1, n2, n3, n4⟩ := chk_nonneg h
  have he : pe (mb k j t p) = 0 := by rw [pe, h4]; rfl
  refine ⟨he, ?_⟩
  rw [pm, if_pos he, h1, h2, h3, h4]
  simp only [Int.toNat_of_nonneg n1, Int.toNat_of_nonneg n2, Int.toNat_of_nonneg n3, Int.toNat_of_nonneg n4]
/-- No valid message's bytes begin another one's. -/
theorem mb_begins {k j t p k' j' t' p' : Int} (h : chkB k j t p = true) (h' : chkB k' j' t' p' = true) (r : List UInt8) (e : mb k' j' t' p' = mb k j t p ++ r) : k = k' ∧ j = j' ∧ t = t' ∧ p = p' := by
  obtain ⟨a1, a2, a3, a4⟩ := parse_mb k j t p h r
  obtain ⟨b1, b2, b3, b4⟩ := parse_mb k' j' t' p' h' []
  rw [List.append_nil] at b1 b2 b3 b4
  rw [← e] at a1 a2 a3 a4
  obtain ⟨n1, n2, n3, n4⟩ := chk_nonneg h
  obtain ⟨m1, m2, m3, m4⟩ := chk_nonneg h'
  rw [b4] at a4
  have a5 : p'.toNat = p.toNat := congrArg (·.1) a4
  omega
/-- What is parsed is valid and has those bytes. -/
theorem pm_ok (l : List UInt8) (h : pe l = 0) : ∃ k j t p : Int, pm l = msgV k j t p ∧ chkB k j t p = true ∧ mb k j t p = l := by
  have hd : (pd l).2.2 = 0 ∧ (pd l).2.1 = [] := by
    unfold pe rdEnd at h
    split at h
    · rename_i h2
      split at h
      · omega
      · rename_i h3
        exact ⟨h2, List.eq_nil_of_length_eq_zero (by omega)⟩
    · contradiction
  obtain ⟨e3, l3, m3, f3⟩ := takeS_ok _ _ _ _ _ hd.1
  obtain ⟨e2, l2, m2, f2⟩ := takeS_ok _ _ _ _ _ e3
  obtain ⟨e1, l1, m1, f1⟩ := takeS_ok _ _ _ _ _ e2
  obtain ⟨e0, l0, m0, f0⟩ := takeS_ok _ _ _ _ _ e1
  refine ⟨_, _, _, _, by rw [pm, if_pos h], ?_, ?_⟩
  · unfold chkB
    simp only [Int.toNat_natCast, Bool.and_eq_true, decide_eq_true_eq]
    have g0 : (1 : Int) ≤ ((pa l).1 : Nat) := f0
    have m0' : (((pa l).1 : Nat) : Int) ≤ max 11 0 := m0
    refine ⟨⟨⟨by omega, ?_⟩, ?_⟩, ?_⟩
    · have m1' : (((pb l).1 : Nat) : Int) ≤ max 72057594037927935 0 := m1
      have f1' : if hasB (pa l).1 1 then (1 : Int) ≤ ((pb l).1 : Nat) else (pb l).1 = 0 := f1
      unfold inS
      split <;> rename_i hx
      · rw [if_pos hx] at f1'; simp; omega
      · rw [if_neg hx] at f1'; simp [f1']
    · have m1' : (((pc l).1 : Nat) : Int) ≤ max 15 0 := m2
      have f1' : if hasB (pa l).1 2 then (0 : Int) ≤ ((pc l).1 : Nat) else (pc l).1 = 0 := f2
      unfold inS
      split <;> rename_i hx
      · rw [if_pos hx] at f1'; simp; omega
      · rw [if_neg hx] at f1'; simp [f1']
    · have m1' : (((pd l).1 : Nat) : Int) ≤ max 9 0 := m3
      have f1' : if hasB (pa l).1 3 then (1 : Int) ≤ ((pd l).1 : Nat) else (pd l).1 = 0 := f3
      unfold inS
      split <;> rename_i hx
      · rw [if_pos hx] at f1'; simp; omega
      · rw [if_neg hx] at f1'; simp [f1']
  · have q0 : l = pt true ((pa l).1 : Nat) ++ (pa l).2.1 := l0
    have q1 : (pa l).2.1 = pt (hasB (pa l).1 1) ((pb l).1 : Nat) ++ (pb l).2.1 := l1
    have q2 : (pb l).2.1 = pt (hasB (pa l).1 2) ((pc l).1 : Nat) ++ (pc l).2.1 := l2
    have q3 : (pc l).2.1 = pt (hasB (pa l).1 3) ((pd l).1 : Nat) ++ (pd l).2.1 := l3
    rw [hd.2, List.append_nil] at q3
    rw [q3] at q2
    rw [q2] at q1
    have q : l = pt true ((pa l).1 : Nat) ++ (pt (hasB (pa l).1 1) ((pb l).1 : Nat) ++ (pt (hasB (pa l).1 2) ((pc l).1 : Nat) ++ pt (hasB (pa l).1 3) ((pd l).1 : Nat))) := by rw [← q1]; exact q0
    rw [mb]
    simp only [Int.toNat_natCast]
    conv => rhs; rw [q]
    rw [show pt true ((pa l).1 : Nat) = numB (cl ((pa l).1 : Nat)) from rfl]
    simp only [List.append_assoc]
end Go.Proofs.YtdphdodjidbngaaGreat

namespace Go.Proofs.YtdphdodjidbngaaGreat
open Go.RowKit
set_option linter.unusedVariables false
set_option linter.unusedSimpArgs false

end Go.Proofs.YtdphdodjidbngaaGreat

namespace Go.Proofs.YtdphdodjidbngaaGreat
open Go.RowKit Go.Sort
set_option linter.unusedVariables false
set_option linter.unusedSimpArgs false

theorem pm_msg (l : List UInt8) : ∃ k j t p : Int, pm l = .agg #[.int .i64 k, .int .i64 j, .int .i64 t, .int .i64 p] := by
  unfold pm
  split
  · exact ⟨_, _, _, _, rfl⟩
  · exact ⟨_, _, _, _, rfl⟩
theorem str_of (s : ByteArray) : str s.data.toList = s := by
  apply ByteArray.ext
  simp [str]

end Go.Proofs.YtdphdodjidbngaaGreat
